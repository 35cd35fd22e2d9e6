/- Contracts of the functions of chapter 2 in the model: NarrowestOf, by the number of nodes. -/
import Derived.Test.YtmgpekdhcghabaaGreatGR24
namespace Go.Proofs.YtmgpekdhcghabaaGreat
open Go.RowKit

set_option maxHeartbeats 4000000 in
set_option maxRecDepth 20000 in
theorem specNarrow_2 (i j : Int) (v : Value) (ps : List Pp) (b : Nat) (w : World) (hp : Pipes w b v ps) (he : endsB 2 ps i j = true) :
    Calls Tryz.prog 43 #[.agg #[.int .i64 2, v], .int .i64 i, .int .i64 j] w fun e w' => ∃ r, e = .returned r ∧ Ints w' w.heap.size r (narrowL 2 ps i j) ∧ Below w.heap.size w w' := by
  have hp0 := hp
  obtain ⟨A, c, rfl, hc1, hc2, hsm, -⟩ := hp.form
  unfold maxLen at hc2
  obtain ⟨hnok, i0, i1, j0, j1, hij⟩ := ends_parts he
  have Hr := Lib.hid (leastR_yes' he)
  have Hn := Lib.hid (narrow_yes' he)
  have Hok := Lib.hid hnok
  clear hij he hnok
  obtain ⟨i0', hi0, hz0, hz1, hz2⟩ := info_parts int_info
  go_enter Tryz.func43, Tryz.ntmps43
  go_wp2_with fail
  refine (specLeastRoom_any 2 i j _ ps b _ (hp0.keep (by (repeat (first | (with_reducible assumption) | (with_reducible exact Below.refl _ _) | ((with_reducible refine Below.alloc ?_ ?hsz _); (case hsz => (first | omega | (simp; done) | (simp; omega) | (simp at *; omega)))) | ((with_reducible refine Below.setCell ?_ ?hsz _); (case hsz => (first | omega | (simp; done) | (simp; omega) | (simp at *; omega)))) | (with_reducible refine Below.drew ?_) | (with_reducible refine below_drewN ?_ _) | ((with_reducible refine Below.trans ?_ (Below.mono (by with_reducible assumption) ?hsz)); (case hsz => (first | omega | (simp; done) | (simp; omega) | (simp at *; omega))))))))).mono ?_
  rintro e w1 ⟨rfl, hb1⟩
  rw [Hr.out]
  have hown1 : w1.ownsRow (w.heap.size + 1) 3 1 (.slice (some ⟨w.heap.size + 1, 0, none⟩) 0 0) 0 [] := by
    have h := World.ownsRow_lit (e := 3) (base := w.heap.size + 1) (size := 1) (w.alloc (.cells #[.int .i64 2, .slice A ps.length c] 25)) #[] 0 (by simp) (by simp [maxLen]) rfl
    rw [World.size_alloc] at h
    exact own_keep h (Nat.le_refl _) hb1
  have hbx1 : Box2 w1 w.heap.size (.int .i64 2) (.slice A ps.length c) := ((Box2.new w _ _ _).keep (by (repeat (first | (with_reducible assumption) | (with_reducible exact Below.refl _ _) | ((with_reducible refine Below.alloc ?_ ?hsz _); (case hsz => (first | omega | (simp; done) | (simp; omega) | (simp at *; omega)))) | ((with_reducible refine Below.setCell ?_ ?hsz _); (case hsz => (first | omega | (simp; done) | (simp; omega) | (simp at *; omega)))) | (with_reducible refine Below.drew ?_) | (with_reducible refine below_drewN ?_ _) | ((with_reducible refine Below.trans ?_ (Below.mono (by with_reducible assumption) ?hsz)); (case hsz => (first | omega | (simp; done) | (simp; omega) | (simp at *; omega)))))))).keep hb1
  have hbw1 : Below w.heap.size w w1 := by (repeat (first | (with_reducible assumption) | (with_reducible exact Below.refl _ _) | ((with_reducible refine Below.alloc ?_ ?hsz _); (case hsz => (first | omega | (simp; done) | (simp; omega) | (simp at *; omega)))) | ((with_reducible refine Below.setCell ?_ ?hsz _); (case hsz => (first | omega | (simp; done) | (simp; omega) | (simp at *; omega)))) | (with_reducible refine Below.drew ?_) | (with_reducible refine below_drewN ?_ _) | ((with_reducible refine Below.trans ?_ (Below.mono (by with_reducible assumption) ?hsz)); (case hsz => (first | omega | (simp; done) | (simp; omega) | (simp at *; omega))))))
  have hz1' : w.heap.size + 1 < w1.heap.size := by have := hb1.size; simp at this; omega
  clear hb1
  generalize leastI 2 ps i j = m at Hn
  have Hn2 : Hid (narrowL 2 ps i j = numW 4 (narrF' ps i j m)) := Lib.hid Hn.out
  clear Hn
  go_wp2
  go_loopw [10, 7] (fun t o wr => ∃ (k q g1 k1 : Nat), k ≤ 4 ∧ t = .int .i64 k ∧ o = .slice (some ⟨g1, 0, none⟩) q k1 ∧ (numW k (narrF' ps i j m)).length = q ∧
      wr.ownsRow (w.heap.size + 1) 3 1 (.slice (some ⟨g1, 0, none⟩) q k1) q ((numW k (narrF' ps i j m)).map (Value.int .i64)) ∧ Below w.heap.size w wr ∧ Box2 wr w.heap.size (.int .i64 2) (.slice A ps.length c)) (fun t _ _ => 4 - (intOf t).toNat)
  case atStart => exact ⟨0, 0, w.heap.size + 1, 0, by omega, rfl, rfl, rfl, hown1, hbw1, hbx1⟩
  case round =>
    obtain ⟨k, q, g1, k1, hk, rfl, rfl, hj, hown, hb, hbx⟩ := hrel
    have hjk : q ≤ k := by rw [← hj]; exact numW_len k _
    have HJ := Lib.hid hj
    clear hj hown1 hbx1
    obtain ⟨hzw, d0, d1, -, -⟩ := id hbx
    by_cases hlt : k < 4
    · by_cases hr : room (k : Int) ps = m
      · have HR := Lib.hid hr
        have hr' : (room (k : Int) ps == m) = true := by simpa using hr
        clear hr
        go_wp2_with fail
        · have hy : narrF' ps i j m k = true := narrF_yes (betw_yes2 (by assumption) (by assumption)) HR.out
          have Hf := Lib.hid (numW_yes hy)
          clear hy
          refine (specRoom_any 2 k _ ps b _ (hp0.keep (by (repeat (first | (with_reducible assumption) | (with_reducible exact Below.refl _ _) | ((with_reducible refine Below.alloc ?_ ?hsz _); (case hsz => (first | omega | (simp; done) | (simp; omega) | (simp at *; omega)))) | ((with_reducible refine Below.setCell ?_ ?hsz _); (case hsz => (first | omega | (simp; done) | (simp; omega) | (simp at *; omega)))) | (with_reducible refine Below.drew ?_) | (with_reducible refine below_drewN ?_ _) | ((with_reducible refine Below.trans ?_ (Below.mono (by with_reducible assumption) ?hsz)); (case hsz => (first | omega | (simp; done) | (simp; omega) | (simp at *; omega)))))))) Hok.out (Int.natCast_nonneg k)).mono ?_
          rintro e w3 ⟨rfl, hb3⟩
          have hbx3 := hbx.keep hb3
          have hown3 := own_keep hown (Nat.le_refl _) hb3
          have hbw3 : Below w.heap.size w w3 := by (repeat (first | (with_reducible assumption) | (with_reducible exact Below.refl _ _) | ((with_reducible refine Below.alloc ?_ ?hsz _); (case hsz => (first | omega | (simp; done) | (simp; omega) | (simp at *; omega)))) | ((with_reducible refine Below.setCell ?_ ?hsz _); (case hsz => (first | omega | (simp; done) | (simp; omega) | (simp at *; omega)))) | (with_reducible refine Below.drew ?_) | (with_reducible refine below_drewN ?_ _) | ((with_reducible refine Below.trans ?_ (Below.mono (by with_reducible assumption) ?hsz)); (case hsz => (first | omega | (simp; done) | (simp; omega) | (simp at *; omega))))))
          have hz3 := hb3.size
          have hrow : ∀ q', (Value.slice (some ⟨g1, 0, none⟩) q k1).ownBlock = some q' → w.heap.size + 1 ≤ q' := fun q' hq => (hown3.lt q' hq).1
          clear d0 d1 hown hb3 hb hbx
          go_wp2_with (first
            | (at_builtin
               go_must (refine wpList_append_lies _ rfl _ _ 30 rfl (w.heap.size + 1) 3 i0' _ 1 8 Tryz.underlying30 hi0 hz0 hz1 hz2 rfl (by omega) _ q _ rfl (hown3.alloc _) ⟨w3.heap.size, 0, none⟩ 1 1 [.int .i64 k] rfl rfl (World.news_of_block (cs := #[.int .i64 k]) (t := 3) (fr := (0, 0)) (heap_alloc_new _ _)) (by simp [Value.oneCell']) (by omega) (by unfold maxLen; omega) (by omega) (by simp; omega) _ rfl ?_)
               intro g2 k2 w7 hown7 hgr7 hat7 hlt7))
          have hb7 : Below w.heap.size w w7 := by
            refine Below.grown (w := w3.alloc (.cells #[.int .i64 k] 3)) (by (repeat (first | (with_reducible assumption) | (with_reducible exact Below.refl _ _) | ((with_reducible refine Below.alloc ?_ ?hsz _); (case hsz => (first | omega | (simp; done) | (simp; omega) | (simp at *; omega)))) | ((with_reducible refine Below.setCell ?_ ?hsz _); (case hsz => (first | omega | (simp; done) | (simp; omega) | (simp at *; omega)))) | (with_reducible refine Below.drew ?_) | (with_reducible refine below_drewN ?_ _) | ((with_reducible refine Below.trans ?_ (Below.mono (by with_reducible assumption) ?hsz)); (case hsz => (first | omega | (simp; done) | (simp; omega) | (simp at *; omega))))))) hgr7 (by (first | omega | (simp; done) | (simp; omega) | (simp at *; omega))) (fun q hq => by have := hrow q hq; omega)
          have hown8 : w7.ownsRow (w.heap.size + 1) 3 1 (.slice (some ⟨g2, 0, none⟩) (q + 1) k2) (q + 1) ((numW (k + 1) (narrF' ps i j m)).map (Value.int .i64)) := by
            rw [Hf.out, List.map_append]
            simpa using hown7
          have hj8 : (numW (k + 1) (narrF' ps i j m)).length = q + 1 := by rw [Hf.out, List.length_append, HJ.out]; rfl
          have hbx8 := (hbx3.keep ((Below.refl _ _).alloc (Nat.le_refl _) (.cells #[.int .i64 k] 3))).grown hgr7 (by intro h; have := hrow _ h.symm; omega)
          clear hown7 hgr7 hat7 hlt7
          go_roundw
          case rel => exact ⟨k + 1, q + 1, g2, k2, by omega, by go_num, rfl, hj8, hown8, hb7, hbx8⟩
          case measure => simp [intOf]; omega
        · have hy : narrF' ps i j m k = false := narrF_no1 (betw_no2 (by assumption))
          have Hf := Lib.hid (numW_no hy)
          clear hy
          go_roundw
          case rel => exact ⟨k + 1, q, g1, k1, by omega, by go_num, rfl, by rw [Hf.out]; exact HJ.out, by rw [Hf.out]; exact hown, hb, hbx⟩
          case measure => simp [intOf]; omega
        · have hy : narrF' ps i j m k = false := narrF_no1 (betw_no' (by assumption))
          have Hf := Lib.hid (numW_no hy)
          clear hy
          go_roundw
          case rel => exact ⟨k + 1, q, g1, k1, by omega, by go_num, rfl, by rw [Hf.out]; exact HJ.out, by rw [Hf.out]; exact hown, hb, hbx⟩
          case measure => simp [intOf]; omega
      · have hy : narrF' ps i j m k = false := narrF_no2 hr
        have Hf := Lib.hid (numW_no hy)
        have hr' : (room (k : Int) ps == m) = false := by simpa using hr
        clear hr hy
        go_wp2_with fail
        · refine (specRoom_any 2 k _ ps b _ (hp0.keep (by (repeat (first | (with_reducible assumption) | (with_reducible exact Below.refl _ _) | ((with_reducible refine Below.alloc ?_ ?hsz _); (case hsz => (first | omega | (simp; done) | (simp; omega) | (simp at *; omega)))) | ((with_reducible refine Below.setCell ?_ ?hsz _); (case hsz => (first | omega | (simp; done) | (simp; omega) | (simp at *; omega)))) | (with_reducible refine Below.drew ?_) | (with_reducible refine below_drewN ?_ _) | ((with_reducible refine Below.trans ?_ (Below.mono (by with_reducible assumption) ?hsz)); (case hsz => (first | omega | (simp; done) | (simp; omega) | (simp at *; omega)))))))) Hok.out (Int.natCast_nonneg k)).mono ?_
          rintro e w3 ⟨rfl, hb3⟩
          have hbx3 := hbx.keep hb3
          have hown3 := own_keep hown (Nat.le_refl _) hb3
          have hbw3 : Below w.heap.size w w3 := by (repeat (first | (with_reducible assumption) | (with_reducible exact Below.refl _ _) | ((with_reducible refine Below.alloc ?_ ?hsz _); (case hsz => (first | omega | (simp; done) | (simp; omega) | (simp at *; omega)))) | ((with_reducible refine Below.setCell ?_ ?hsz _); (case hsz => (first | omega | (simp; done) | (simp; omega) | (simp at *; omega)))) | (with_reducible refine Below.drew ?_) | (with_reducible refine below_drewN ?_ _) | ((with_reducible refine Below.trans ?_ (Below.mono (by with_reducible assumption) ?hsz)); (case hsz => (first | omega | (simp; done) | (simp; omega) | (simp at *; omega))))))
          clear d0 d1 hown hb3 hb hbx
          go_wp2
          go_roundw
          case rel => exact ⟨k + 1, q, g1, k1, by omega, by go_num, rfl, by rw [Hf.out]; exact HJ.out, by rw [Hf.out]; exact hown3, hbw3, hbx3⟩
          case measure => simp [intOf]; omega
        all_goals
          go_roundw
          case rel => exact ⟨k + 1, q, g1, k1, by omega, by go_num, rfl, by rw [Hf.out]; exact HJ.out, by rw [Hf.out]; exact hown, hb, hbx⟩
          case measure => simp [intOf]; omega
    · go_wp2
      obtain rfl : k = 4 := by omega
      go_ret
      exact ⟨_, rfl, by rw [Hn2.out]; exact Ints.mono (b := w.heap.size + 1) ⟨by rw [HJ.out]; exact hown, by rw [HJ.out]; unfold small; omega⟩ (by omega), hb⟩

set_option maxHeartbeats 4000000 in
set_option maxRecDepth 20000 in
theorem specNarrow_3 (i j : Int) (v : Value) (ps : List Pp) (b : Nat) (w : World) (hp : Pipes w b v ps) (he : endsB 3 ps i j = true) :
    Calls Tryz.prog 43 #[.agg #[.int .i64 3, v], .int .i64 i, .int .i64 j] w fun e w' => ∃ r, e = .returned r ∧ Ints w' w.heap.size r (narrowL 3 ps i j) ∧ Below w.heap.size w w' := by
  have hp0 := hp
  obtain ⟨A, c, rfl, hc1, hc2, hsm, -⟩ := hp.form
  unfold maxLen at hc2
  obtain ⟨hnok, i0, i1, j0, j1, hij⟩ := ends_parts he
  have Hr := Lib.hid (leastR_yes' he)
  have Hn := Lib.hid (narrow_yes' he)
  have Hok := Lib.hid hnok
  clear hij he hnok
  obtain ⟨i0', hi0, hz0, hz1, hz2⟩ := info_parts int_info
  go_enter Tryz.func43, Tryz.ntmps43
  go_wp2_with fail
  refine (specLeastRoom_any 3 i j _ ps b _ (hp0.keep (by (repeat (first | (with_reducible assumption) | (with_reducible exact Below.refl _ _) | ((with_reducible refine Below.alloc ?_ ?hsz _); (case hsz => (first | omega | (simp; done) | (simp; omega) | (simp at *; omega)))) | ((with_reducible refine Below.setCell ?_ ?hsz _); (case hsz => (first | omega | (simp; done) | (simp; omega) | (simp at *; omega)))) | (with_reducible refine Below.drew ?_) | (with_reducible refine below_drewN ?_ _) | ((with_reducible refine Below.trans ?_ (Below.mono (by with_reducible assumption) ?hsz)); (case hsz => (first | omega | (simp; done) | (simp; omega) | (simp at *; omega))))))))).mono ?_
  rintro e w1 ⟨rfl, hb1⟩
  rw [Hr.out]
  have hown1 : w1.ownsRow (w.heap.size + 1) 3 1 (.slice (some ⟨w.heap.size + 1, 0, none⟩) 0 0) 0 [] := by
    have h := World.ownsRow_lit (e := 3) (base := w.heap.size + 1) (size := 1) (w.alloc (.cells #[.int .i64 3, .slice A ps.length c] 25)) #[] 0 (by simp) (by simp [maxLen]) rfl
    rw [World.size_alloc] at h
    exact own_keep h (Nat.le_refl _) hb1
  have hbx1 : Box2 w1 w.heap.size (.int .i64 3) (.slice A ps.length c) := ((Box2.new w _ _ _).keep (by (repeat (first | (with_reducible assumption) | (with_reducible exact Below.refl _ _) | ((with_reducible refine Below.alloc ?_ ?hsz _); (case hsz => (first | omega | (simp; done) | (simp; omega) | (simp at *; omega)))) | ((with_reducible refine Below.setCell ?_ ?hsz _); (case hsz => (first | omega | (simp; done) | (simp; omega) | (simp at *; omega)))) | (with_reducible refine Below.drew ?_) | (with_reducible refine below_drewN ?_ _) | ((with_reducible refine Below.trans ?_ (Below.mono (by with_reducible assumption) ?hsz)); (case hsz => (first | omega | (simp; done) | (simp; omega) | (simp at *; omega)))))))).keep hb1
  have hbw1 : Below w.heap.size w w1 := by (repeat (first | (with_reducible assumption) | (with_reducible exact Below.refl _ _) | ((with_reducible refine Below.alloc ?_ ?hsz _); (case hsz => (first | omega | (simp; done) | (simp; omega) | (simp at *; omega)))) | ((with_reducible refine Below.setCell ?_ ?hsz _); (case hsz => (first | omega | (simp; done) | (simp; omega) | (simp at *; omega)))) | (with_reducible refine Below.drew ?_) | (with_reducible refine below_drewN ?_ _) | ((with_reducible refine Below.trans ?_ (Below.mono (by with_reducible assumption) ?hsz)); (case hsz => (first | omega | (simp; done) | (simp; omega) | (simp at *; omega))))))
  have hz1' : w.heap.size + 1 < w1.heap.size := by have := hb1.size; simp at this; omega
  clear hb1
  generalize leastI 3 ps i j = m at Hn
  have Hn2 : Hid (narrowL 3 ps i j = numW 8 (narrF' ps i j m)) := Lib.hid Hn.out
  clear Hn
  go_wp2
  go_loopw [10, 7] (fun t o wr => ∃ (k q g1 k1 : Nat), k ≤ 8 ∧ t = .int .i64 k ∧ o = .slice (some ⟨g1, 0, none⟩) q k1 ∧ (numW k (narrF' ps i j m)).length = q ∧
      wr.ownsRow (w.heap.size + 1) 3 1 (.slice (some ⟨g1, 0, none⟩) q k1) q ((numW k (narrF' ps i j m)).map (Value.int .i64)) ∧ Below w.heap.size w wr ∧ Box2 wr w.heap.size (.int .i64 3) (.slice A ps.length c)) (fun t _ _ => 8 - (intOf t).toNat)
  case atStart => exact ⟨0, 0, w.heap.size + 1, 0, by omega, rfl, rfl, rfl, hown1, hbw1, hbx1⟩
  case round =>
    obtain ⟨k, q, g1, k1, hk, rfl, rfl, hj, hown, hb, hbx⟩ := hrel
    have hjk : q ≤ k := by rw [← hj]; exact numW_len k _
    have HJ := Lib.hid hj
    clear hj hown1 hbx1
    obtain ⟨hzw, d0, d1, -, -⟩ := id hbx
    by_cases hlt : k < 8
    · by_cases hr : room (k : Int) ps = m
      · have HR := Lib.hid hr
        have hr' : (room (k : Int) ps == m) = true := by simpa using hr
        clear hr
        go_wp2_with fail
        · have hy : narrF' ps i j m k = true := narrF_yes (betw_yes2 (by assumption) (by assumption)) HR.out
          have Hf := Lib.hid (numW_yes hy)
          clear hy
          refine (specRoom_any 3 k _ ps b _ (hp0.keep (by (repeat (first | (with_reducible assumption) | (with_reducible exact Below.refl _ _) | ((with_reducible refine Below.alloc ?_ ?hsz _); (case hsz => (first | omega | (simp; done) | (simp; omega) | (simp at *; omega)))) | ((with_reducible refine Below.setCell ?_ ?hsz _); (case hsz => (first | omega | (simp; done) | (simp; omega) | (simp at *; omega)))) | (with_reducible refine Below.drew ?_) | (with_reducible refine below_drewN ?_ _) | ((with_reducible refine Below.trans ?_ (Below.mono (by with_reducible assumption) ?hsz)); (case hsz => (first | omega | (simp; done) | (simp; omega) | (simp at *; omega)))))))) Hok.out (Int.natCast_nonneg k)).mono ?_
          rintro e w3 ⟨rfl, hb3⟩
          have hbx3 := hbx.keep hb3
          have hown3 := own_keep hown (Nat.le_refl _) hb3
          have hbw3 : Below w.heap.size w w3 := by (repeat (first | (with_reducible assumption) | (with_reducible exact Below.refl _ _) | ((with_reducible refine Below.alloc ?_ ?hsz _); (case hsz => (first | omega | (simp; done) | (simp; omega) | (simp at *; omega)))) | ((with_reducible refine Below.setCell ?_ ?hsz _); (case hsz => (first | omega | (simp; done) | (simp; omega) | (simp at *; omega)))) | (with_reducible refine Below.drew ?_) | (with_reducible refine below_drewN ?_ _) | ((with_reducible refine Below.trans ?_ (Below.mono (by with_reducible assumption) ?hsz)); (case hsz => (first | omega | (simp; done) | (simp; omega) | (simp at *; omega))))))
          have hz3 := hb3.size
          have hrow : ∀ q', (Value.slice (some ⟨g1, 0, none⟩) q k1).ownBlock = some q' → w.heap.size + 1 ≤ q' := fun q' hq => (hown3.lt q' hq).1
          clear d0 d1 hown hb3 hb hbx
          go_wp2_with (first
            | (at_builtin
               go_must (refine wpList_append_lies _ rfl _ _ 30 rfl (w.heap.size + 1) 3 i0' _ 1 8 Tryz.underlying30 hi0 hz0 hz1 hz2 rfl (by omega) _ q _ rfl (hown3.alloc _) ⟨w3.heap.size, 0, none⟩ 1 1 [.int .i64 k] rfl rfl (World.news_of_block (cs := #[.int .i64 k]) (t := 3) (fr := (0, 0)) (heap_alloc_new _ _)) (by simp [Value.oneCell']) (by omega) (by unfold maxLen; omega) (by omega) (by simp; omega) _ rfl ?_)
               intro g2 k2 w7 hown7 hgr7 hat7 hlt7))
          have hb7 : Below w.heap.size w w7 := by
            refine Below.grown (w := w3.alloc (.cells #[.int .i64 k] 3)) (by (repeat (first | (with_reducible assumption) | (with_reducible exact Below.refl _ _) | ((with_reducible refine Below.alloc ?_ ?hsz _); (case hsz => (first | omega | (simp; done) | (simp; omega) | (simp at *; omega)))) | ((with_reducible refine Below.setCell ?_ ?hsz _); (case hsz => (first | omega | (simp; done) | (simp; omega) | (simp at *; omega)))) | (with_reducible refine Below.drew ?_) | (with_reducible refine below_drewN ?_ _) | ((with_reducible refine Below.trans ?_ (Below.mono (by with_reducible assumption) ?hsz)); (case hsz => (first | omega | (simp; done) | (simp; omega) | (simp at *; omega))))))) hgr7 (by (first | omega | (simp; done) | (simp; omega) | (simp at *; omega))) (fun q hq => by have := hrow q hq; omega)
          have hown8 : w7.ownsRow (w.heap.size + 1) 3 1 (.slice (some ⟨g2, 0, none⟩) (q + 1) k2) (q + 1) ((numW (k + 1) (narrF' ps i j m)).map (Value.int .i64)) := by
            rw [Hf.out, List.map_append]
            simpa using hown7
          have hj8 : (numW (k + 1) (narrF' ps i j m)).length = q + 1 := by rw [Hf.out, List.length_append, HJ.out]; rfl
          have hbx8 := (hbx3.keep ((Below.refl _ _).alloc (Nat.le_refl _) (.cells #[.int .i64 k] 3))).grown hgr7 (by intro h; have := hrow _ h.symm; omega)
          clear hown7 hgr7 hat7 hlt7
          go_roundw
          case rel => exact ⟨k + 1, q + 1, g2, k2, by omega, by go_num, rfl, hj8, hown8, hb7, hbx8⟩
          case measure => simp [intOf]; omega
        · have hy : narrF' ps i j m k = false := narrF_no1 (betw_no2 (by assumption))
          have Hf := Lib.hid (numW_no hy)
          clear hy
          go_roundw
          case rel => exact ⟨k + 1, q, g1, k1, by omega, by go_num, rfl, by rw [Hf.out]; exact HJ.out, by rw [Hf.out]; exact hown, hb, hbx⟩
          case measure => simp [intOf]; omega
        · have hy : narrF' ps i j m k = false := narrF_no1 (betw_no' (by assumption))
          have Hf := Lib.hid (numW_no hy)
          clear hy
          go_roundw
          case rel => exact ⟨k + 1, q, g1, k1, by omega, by go_num, rfl, by rw [Hf.out]; exact HJ.out, by rw [Hf.out]; exact hown, hb, hbx⟩
          case measure => simp [intOf]; omega
      · have hy : narrF' ps i j m k = false := narrF_no2 hr
        have Hf := Lib.hid (numW_no hy)
        have hr' : (room (k : Int) ps == m) = false := by simpa using hr
        clear hr hy
        go_wp2_with fail
        · refine (specRoom_any 3 k _ ps b _ (hp0.keep (by (repeat (first | (with_reducible assumption) | (with_reducible exact Below.refl _ _) | ((with_reducible refine Below.alloc ?_ ?hsz _); (case hsz => (first | omega | (simp; done) | (simp; omega) | (simp at *; omega)))) | ((with_reducible refine Below.setCell ?_ ?hsz _); (case hsz => (first | omega | (simp; done) | (simp; omega) | (simp at *; omega)))) | (with_reducible refine Below.drew ?_) | (with_reducible refine below_drewN ?_ _) | ((with_reducible refine Below.trans ?_ (Below.mono (by with_reducible assumption) ?hsz)); (case hsz => (first | omega | (simp; done) | (simp; omega) | (simp at *; omega)))))))) Hok.out (Int.natCast_nonneg k)).mono ?_
          rintro e w3 ⟨rfl, hb3⟩
          have hbx3 := hbx.keep hb3
          have hown3 := own_keep hown (Nat.le_refl _) hb3
          have hbw3 : Below w.heap.size w w3 := by (repeat (first | (with_reducible assumption) | (with_reducible exact Below.refl _ _) | ((with_reducible refine Below.alloc ?_ ?hsz _); (case hsz => (first | omega | (simp; done) | (simp; omega) | (simp at *; omega)))) | ((with_reducible refine Below.setCell ?_ ?hsz _); (case hsz => (first | omega | (simp; done) | (simp; omega) | (simp at *; omega)))) | (with_reducible refine Below.drew ?_) | (with_reducible refine below_drewN ?_ _) | ((with_reducible refine Below.trans ?_ (Below.mono (by with_reducible assumption) ?hsz)); (case hsz => (first | omega | (simp; done) | (simp; omega) | (simp at *; omega))))))
          clear d0 d1 hown hb3 hb hbx
          go_wp2
          go_roundw
          case rel => exact ⟨k + 1, q, g1, k1, by omega, by go_num, rfl, by rw [Hf.out]; exact HJ.out, by rw [Hf.out]; exact hown3, hbw3, hbx3⟩
          case measure => simp [intOf]; omega
        all_goals
          go_roundw
          case rel => exact ⟨k + 1, q, g1, k1, by omega, by go_num, rfl, by rw [Hf.out]; exact HJ.out, by rw [Hf.out]; exact hown, hb, hbx⟩
          case measure => simp [intOf]; omega
    · go_wp2
      obtain rfl : k = 8 := by omega
      go_ret
      exact ⟨_, rfl, by rw [Hn2.out]; exact Ints.mono (b := w.heap.size + 1) ⟨by rw [HJ.out]; exact hown, by rw [HJ.out]; unfold small; omega⟩ (by omega), hb⟩

end Go.Proofs.YtmgpekdhcghabaaGreat
