/- Contracts of the laws' draws, chapter 4: a thread. -/
import Derived.Test.YtlaeckjfjleplaaDA
import Derived.Test.YtlaeckjfjleplaaLA
import Derived.Deep.RegionHeld3
import Derived.Deep.AppendLies
namespace Go.Proofs.Ytlaeckjfjleplaa
open Go.RowKit

def DrawnThread (w : World) (e : Ending) (w' : World) : Prop :=
  ∃ (z : Int) (ps : List Pp) (u : Value) (xs : List Int) (r : Value) (i j : Int), e = .returned (.tuple #[.agg #[.int .i64 z, u], r, .int .i64 i, .int .i64 j]) ∧ Pipes w' w.heap.size u ps ∧ Ints w' w.heap.size r xs ∧ Below w.heap.size w w' ∧ ps.length ≤ 8 ∧ 1 ≤ z ∧ z ≤ 6 ∧ 0 ≤ i ∧ 0 ≤ j ∧ (2 ≤ z → i < z)

/-- pipes that lie ahead of a row's block are as they were when the row has grown -/
theorem Pipes.grownFar {w w' : World} {b : Nat} {v r : Value} {ps : List Pp} (h : Pipes w b v ps) (hg : w.grownBy w' r.ownBlock) (hne : ∀ q, r.ownBlock = some q → ∀ p, v.ownBlock = some p → p < q) : Pipes w' b v ps := by
  refine ⟨h.1.kept hg ?_, h.2⟩
  by_cases hv : v.ownBlock = none
  · exact .inl hv
  · right
    intro e
    obtain ⟨p, hp⟩ := Option.ne_none_iff_exists'.1 hv
    have := hne p (by rw [← e]; exact hp) p hp
    omega

set_option maxRecDepth 20000 in
set_option maxHeartbeats 4000000 in
set_option maxRecDepth 20000 in
theorem drawThreadOk_any (v : Value) (n : Nat) (w : World) (h : ArgBytes w v n) : Calls Try.prog 18 #[v] w (DrawnThread w) := by
  have bx0 := Box2.new w (.int .i64 0) (.slice none 0 0) 25
  go_enter Try.func18, Try.ntmps18
  go_wp2_with fail
  refine (l20Open_any v n _ (h.keep (by (repeat (first | (with_reducible assumption) | (with_reducible exact Below.refl _ _) | ((with_reducible refine Below.alloc ?_ ?hsz _); (case hsz => (first | omega | (simp; done) | (simp; omega) | (simp at *; omega)))) | ((with_reducible refine Below.setCell ?_ ?hsz _); (case hsz => (first | omega | (simp; done) | (simp; omega) | (simp at *; omega)))) | (with_reducible refine Below.drew ?_) | (with_reducible refine below_drewN ?_ _) | ((with_reducible refine Below.trans ?_ (Below.mono (by with_reducible assumption) ?hsz)); (case hsz => (first | omega | (simp; done) | (simp; omega) | (simp at *; omega))))))))).mono ?_
  rintro e w1 ⟨A, m, c, rfl, hr1, hb1, hz1⟩
  have bx1 := bx0.keep (hb1.mono (by simp))
  rw [World.size_alloc] at hr1 hz1
  have hgo : Below w.heap.size w w1 := by (repeat (first | (with_reducible assumption) | (with_reducible exact Below.refl _ _) | ((with_reducible refine Below.alloc ?_ ?hsz _); (case hsz => (first | omega | (simp; done) | (simp; omega) | (simp at *; omega)))) | ((with_reducible refine Below.setCell ?_ ?hsz _); (case hsz => (first | omega | (simp; done) | (simp; omega) | (simp at *; omega)))) | (with_reducible refine Below.drew ?_) | (with_reducible refine below_drewN ?_ _) | ((with_reducible refine Below.trans ?_ (Below.mono (by with_reducible assumption) ?hsz)); (case hsz => (first | omega | (simp; done) | (simp; omega) | (simp at *; omega))))))
  go_wp2_with fail
  with_reducible refine (l20Free_any 14 (w.heap.size + 1) m c 0 A _ hr1 (by omega) (by omega) (by omega)).mono ?_
  rintro e w2 ⟨z, ps, u, i, j, rfl, hp2, hr2, hg2, hl8, hzl, hzh, hi0, hj0, hiz⟩
  have bx2 := bx1.grown hg2 (by simp)
  have hs2 := hg2.size
  have hgw2 : Below w.heap.size w w2 := hgo.trans (below_grow hg2 (by omega) (fun q hq => by injection hq with hq; omega))
  obtain ⟨PA, pc, rfl, hc1, hc2, hsm, -⟩ := hp2.form
  unfold maxLen at hc2
  obtain ⟨i0, hi0', hz0, hz1', hz2'⟩ := info_parts int_info
  have hmk := fun W => run_make_ints (n := ps.length) hsm W
  have nb2 : Box2 (w2.alloc (.cells #[.int .i64 z, .slice PA ps.length pc] 25)) w2.heap.size (.int .i64 z) (.slice PA ps.length pc) := Box2.new _ _ _ _
  clear hg2
  obtain ⟨ns, n0, n1, n2, n3⟩ := id nb2
  go_wp2_with fail
  go_region_held3 (fun w' => w'.cell? ⟨w2.heap.size, 0, none⟩ = some (.int .i64 z) ∧ w'.cell? ⟨w2.heap.size, 1, none⟩ = some (.slice PA ps.length pc))
    (first | exact ⟨y0, y1⟩ | go_keep | (go_split_ands; (refine ⟨?_, ?_⟩ <;> first | (with_reducible assumption) | (with_reducible refine cell_drew ?_; with_reducible assumption) | (refine cell_keep ?_ (by with_reducible assumption); with_reducible assumption))))
    ((go_at_call 56; (with_reducible refine (specWayFrom_any z i j _ _ ps (List.replicate ps.length 0) _ w2.heap.size _ (hp2.keep (by (repeat (first | (with_reducible assumption) | (with_reducible exact Below.refl _ _) | ((with_reducible refine Below.alloc ?_ ?hsz _); (case hsz => (first | omega | (simp; done) | (simp; omega) | (simp at *; omega)))) | ((with_reducible refine Below.setCell ?_ ?hsz _); (case hsz => (first | omega | (simp; done) | (simp; omega) | (simp at *; omega)))) | (with_reducible refine Below.drew ?_) | (with_reducible refine below_drewN ?_ _) | ((with_reducible refine Below.trans ?_ (Below.mono (by with_reducible assumption) ?hsz)); (case hsz => (first | omega | (simp; done) | (simp; omega) | (simp at *; omega)))))))) (by first | exact Ints_made _ (by simp) hsm (by simp) | exact (Ints_made _ (by simp) hsm (by simp)).drew')).mono ?_); rintro e w3 ⟨rr, rfl, hw3, hb3⟩; have hz3 := hb3.size; have nb3 := (nb2.keep (by (repeat (first | (with_reducible assumption) | (with_reducible exact Below.refl _ _) | ((with_reducible refine Below.alloc ?_ ?hsz _); (case hsz => (first | omega | (simp; done) | (simp; omega) | (simp at *; omega)))) | ((with_reducible refine Below.setCell ?_ ?hsz _); (case hsz => (first | omega | (simp; done) | (simp; omega) | (simp at *; omega)))) | (with_reducible refine Below.drew ?_) | (with_reducible refine below_drewN ?_ _) | ((with_reducible refine Below.trans ?_ (Below.mono (by with_reducible assumption) ?hsz)); (case hsz => (first | omega | (simp; done) | (simp; omega) | (simp at *; omega)))))))).keep hb3; obtain ⟨ns3, y0, y1, y2, y3⟩ := id nb3))
  have hB3 : Below w2.heap.size w2 w3 := by (repeat (first | (with_reducible assumption) | (with_reducible exact Below.refl _ _) | ((with_reducible refine Below.alloc ?_ ?hsz _); (case hsz => (first | omega | (simp; done) | (simp; omega) | (simp at *; omega)))) | ((with_reducible refine Below.setCell ?_ ?hsz _); (case hsz => (first | omega | (simp; done) | (simp; omega) | (simp at *; omega)))) | (with_reducible refine Below.drew ?_) | (with_reducible refine below_drewN ?_ _) | ((with_reducible refine Below.trans ?_ (Below.mono (by with_reducible assumption) ?hsz)); (case hsz => (first | omega | (simp; done) | (simp; omega) | (simp at *; omega))))))
  have bx3 := bx2.keep hB3
  have hr3 := hr2.keep hB3
  have hp3 := hp2.keep hB3
  have hpb : Hid (∀ p, (Value.slice PA ps.length pc).ownBlock = some p → p < w3.heap.size) := Lib.hid fun p hp => Nat.lt_of_lt_of_le (hp2.1.lt p hp).2 hB3.size
  have hgw3 : Below w.heap.size w w3 := hgw2.trans (hB3.mono hgw2.size)
  have hs3 := hB3.size
  have hwl := wayI_len z ps (List.replicate ps.length 0) i j
  clear hb3 hB3 bx1 bx2 hr1 hr2 hp2 hgw2 nb2 hmk n0 n1 n2 n3 y0 y1 y2 y3 hgo bx0
  obtain ⟨M, hM⟩ : ∃ M, (wayI z ps (List.replicate ps.length 0) i j).length = M := ⟨_, rfl⟩
  obtain ⟨AW, cW, rfl, -, -, -, -⟩ := hw3.form
  rw [hM] at hw3 hwl ⊢
  have HM := Lib.hid hM
  clear hM
  have hW : Hid (wayB z ps (List.replicate ps.length 0) i j = true → ∀ k (hk : k < M), ∃ s : Nat, (wayI z ps (List.replicate ps.length 0) i j)[k]'(by rw [HM.out]; exact hk) = (s : Int) ∧ s < 2 * ps.length) := Lib.hid (by
    intro hw k hk
    obtain ⟨-, -, -, wst, -⟩ := wayR_ok hw
    have hkl : k < (wayR z ps (List.replicate ps.length 0) i j).length := by have := HM.out; rw [wayI, List.length_map] at this; omega
    exact ⟨(wayR z ps (List.replicate ps.length 0) i j)[k], by simp [wayI], (wst _ (List.getElem_mem hkl)).1⟩)
  have hlit : (w3.alloc (.cells #[] 3)).ownsRow w3.heap.size 3 1 (.slice (some ⟨w3.heap.size, 0, none⟩) 0 0) 0 [] := World.ownsRow_lit (e := 3) (base := w3.heap.size) (size := 1) w3 #[] 0 (Nat.le_refl _) (by simp [maxLen]) rfl
  generalize wayB z ps (List.replicate ps.length 0) i j = bw at *
  go_wp2_with fail
  go_loopw [12, 13] (fun t12 t13 wr => ∃ (k q g k1 : Nat) (ys : List Int), k ≤ M ∧ t13 = .int .i64 k ∧ q ≤ k ∧ ys.length = q ∧ t12 = .slice (some ⟨g, 0, none⟩) q k1 ∧ wr.ownsRow w3.heap.size 3 1 (.slice (some ⟨g, 0, none⟩) q k1) q (ys.map (Value.int .i64)) ∧ Below w3.heap.size w3 wr) (fun _ t _ => M - (intOf t).toNat)
  case atStart => exact ⟨0, 0, w3.heap.size, 0, [], by omega, rfl, by omega, rfl, rfl, hlit, by (repeat (first | (with_reducible assumption) | (with_reducible exact Below.refl _ _) | ((with_reducible refine Below.alloc ?_ ?hsz _); (case hsz => (first | omega | (simp; done) | (simp; omega) | (simp at *; omega)))) | ((with_reducible refine Below.setCell ?_ ?hsz _); (case hsz => (first | omega | (simp; done) | (simp; omega) | (simp at *; omega)))) | (with_reducible refine Below.drew ?_) | (with_reducible refine below_drewN ?_ _) | ((with_reducible refine Below.trans ?_ (Below.mono (by with_reducible assumption) ?hsz)); (case hsz => (first | omega | (simp; done) | (simp; omega) | (simp at *; omega))))))⟩
  case round =>
    clear hlit
    obtain ⟨k, q, g, k1, ys, hk, rfl, hq, hyl, rfl, hown, hb⟩ := hrel
    have Hyl := Lib.hid hyl
    clear hyl
    have hzb := hb.size
    have hrow : ∀ q', (Value.slice (some ⟨g, 0, none⟩) q k1).ownBlock = some q' → w3.heap.size ≤ q' := fun q' hq => (hown.lt q' hq).1
    by_cases hgo : k < M ∧ bw = true
    · obtain ⟨hlt, rfl⟩ := hgo
      have hkl : k < (wayI z ps (List.replicate ps.length 0) i j).length := by rw [HM.out]; exact hlt
      obtain ⟨gw, rfl, gw1, gw2, cw, -⟩ := hw3.cellAt hb k hkl
      obtain ⟨s, hs1, hs2⟩ := hW.out rfl k hlt
      rw [hs1] at cw
      clear hs1
      have hgww : gw < wr.heap.size := Nat.lt_of_lt_of_le gw2 hzb
      obtain ⟨kk, hkk⟩ : ∃ kk, s / 2 = kk := ⟨_, rfl⟩
      have hq1 : (s : Int) / 2 = (kk : Int) := by omega
      have hq2 : (s : Int).tdiv 2 = (kk : Int) := by rw [Int.tdiv_eq_ediv_of_nonneg (Int.natCast_nonneg s)]; exact hq1
      have hq3 : IntKind.i64.wrap (kk : Int) = (kk : Int) := IntWalk.i64_in _ (by omega)
      clear hkk
      go_wp2_with (first
        | (at_builtin
           go_must (refine wpList_append_lies _ rfl _ _ 26 rfl w3.heap.size 3 i0 _ 1 8 Try.underlying26 hi0' hz0 hz1' hz2' rfl (by omega) (.slice (some ⟨g, 0, none⟩) q k1) q _ rfl (hown.alloc _) ⟨wr.heap.size, 0, none⟩ 1 1 [.int .i64 (kk : Int)] rfl rfl (World.news_of_block (cs := #[.int .i64 (kk : Int)]) (t := 3) (fr := (0, 0)) (heap_alloc_new _ _)) (by simp [Value.oneCell']) (by omega) (by unfold maxLen; omega) (by omega) (by simp; omega) _ rfl ?_)
           intro g2 k2 w7 hown7 hgr7 hat7 hlt7
           go_must (have hb7 : Below w3.heap.size w3 w7 := Below.grown (w := wr.alloc (.cells #[.int .i64 (kk : Int)] 3)) (by (repeat (first | (with_reducible assumption) | (with_reducible exact Below.refl _ _) | ((with_reducible refine Below.alloc ?_ ?hsz _); (case hsz => (first | omega | (simp; done) | (simp; omega) | (simp at *; omega)))) | ((with_reducible refine Below.setCell ?_ ?hsz _); (case hsz => (first | omega | (simp; done) | (simp; omega) | (simp at *; omega)))) | (with_reducible refine Below.drew ?_) | (with_reducible refine below_drewN ?_ _) | ((with_reducible refine Below.trans ?_ (Below.mono (by with_reducible assumption) ?hsz)); (case hsz => (first | omega | (simp; done) | (simp; omega) | (simp at *; omega))))))) hgr7 (by (first | omega | (simp; done) | (simp; omega) | (simp at *; omega))) hrow)))
      have hown8 : w7.ownsRow w3.heap.size 3 1 (.slice (some ⟨g2, 0, none⟩) (q + 1) k2) (q + 1) ((ys ++ [(kk : Int)]).map (Value.int .i64)) := by
        rw [List.map_append]
        exact hown7
      clear hown7 hgr7 hat7 hlt7
      go_roundw
      case rel => exact ⟨k + 1, q + 1, g2, k2, ys ++ [(kk : Int)], by omega, by go_num, by omega, by rw [List.length_append, Hyl.out]; rfl, rfl, hown8, hb7⟩
      case measure => simp [intOf]; omega
    · have hbx := bx3.keep hb
      have hr := hr3.keep hb
      have hp := hp3.keep hb
      have hgw := hgw3.trans (hb.mono hgw3.size)
      have hgws := hgw.size
      have nb : Box2 wr w2.heap.size (.int .i64 z) (.slice PA ps.length pc) := nb3.keep hb
      clear bx3 hr3 hp3 hgw3
      have hb0 : (k < M ∧ bw = false) ∨ ¬ k < M := by
        by_cases hlt : k < M
        · left
          refine ⟨hlt, ?_⟩
          cases bw with
          | false => rfl
          | true => exact absurd ⟨hlt, rfl⟩ hgo
        · exact .inr hlt
      clear hgo
      rcases hb0 with ⟨hlt, rfl⟩ | hlt
      · go_wp2_with fail
        refine (odd_any 4 (w.heap.size + 1) m c _ A _ hr (by omega) (by omega) (by omega)).mono ?_
        rintro e w4 ⟨bb, rfl, hr4, hg4, hz4⟩
        have hown4 := own_grow hown hg4 (fun q hq => by injection hq with hq; omega)
        have bx4 := hbx.grown hg4 (by simp)
        have nb4 := nb.grown hg4 (by simp; omega)
        have hp4 := hp.grown hg4 (by omega)
        have hgw4 : Below w.heap.size w w4 := hgw.trans (below_grow hg4 (by omega) (fun q hq => by injection hq with hq; omega))
        clear hown hg4 hbx hp hgw nb
        obtain ⟨bs4, b0, b1, b2, b3⟩ := id bx4
        obtain ⟨ns4, n0, n1, n2, n3⟩ := id nb4
        cases bb with
        | false =>
          go_wp2
          have hI4 : Ints w4 w3.heap.size (.slice (some ⟨g, 0, none⟩) q k1) ys := ⟨by rw [Hyl.out]; exact hown4, by rw [Hyl.out]; unfold small; omega⟩
          refine bodyPost_ret (v := .tuple #[.agg #[.int .i64 z, .slice PA ps.length pc], .slice (some ⟨g, 0, none⟩) q k1, .int .i64 i, .int .i64 j]) (by simp [results, Try.results18, go_sem, b0, b1]) rfl ⟨z, ps, _, ys, _, i, j, rfl, ?_, ?_, ?_, hl8, hzl, hzh, hi0, hj0, hiz⟩
          · refine Pipes.mono (b := w1.heap.size) ?_ (by omega)
            (repeat (first | (with_reducible assumption) | ((with_reducible refine Pipes.setLow ?_ ?hsz); (case hsz => (first | omega | (simp; done) | (simp; omega) | (simp at *; omega)))) | (with_reducible refine Pipes.alloc' ?_ _) | (with_reducible refine Pipes.drew' ?_) | (with_reducible refine Pipes.drewN' ?_ _) | ((with_reducible refine Pipes.keep ?_ (by with_reducible assumption)))))
          · refine Ints.mono (b := w3.heap.size) ?_ (by omega)
            (repeat (first | (with_reducible assumption) | ((with_reducible refine Ints.setLow ?_ ?hsz); (case hsz => (first | omega | (simp; done) | (simp; omega) | (simp at *; omega)))) | (with_reducible refine Ints.alloc' ?_ _) | (with_reducible refine Ints.drew' ?_) | (with_reducible refine Ints.drewN' ?_ _) | ((with_reducible refine Ints.keep ?_ (by with_reducible assumption)))))
          · (repeat (first | (with_reducible assumption) | (with_reducible exact Below.refl _ _) | ((with_reducible refine Below.alloc ?_ ?hsz _); (case hsz => (first | omega | (simp; done) | (simp; omega) | (simp at *; omega)))) | ((with_reducible refine Below.setCell ?_ ?hsz _); (case hsz => (first | omega | (simp; done) | (simp; omega) | (simp at *; omega)))) | (with_reducible refine Below.drew ?_) | (with_reducible refine below_drewN ?_ _) | ((with_reducible refine Below.trans ?_ (Below.mono (by with_reducible assumption) ?hsz)); (case hsz => (first | omega | (simp; done) | (simp; omega) | (simp at *; omega))))))
        | true =>
          go_wp2_with fail
          refine (pick_any ((ps.length : Int) + 1) (w.heap.size + 1) m c _ A _ hr4 (by omega) (by omega) (by omega)).mono ?_
          rintro e w5 ⟨x5, rfl, x50, x51, hr5, hg5, hz5⟩
          have hown5 := own_grow hown4 hg5 (fun q hq => by injection hq with hq; omega)
          have bx5 := bx4.grown hg5 (by simp)
          have nb5 := nb4.grown hg5 (by simp; omega)
          have hp5 := hp4.grown hg5 (by omega)
          have hgw5 : Below w.heap.size w w5 := hgw4.trans (below_grow hg5 (by omega) (fun q hq => by injection hq with hq; omega))
          clear hown4 hg5 bx4 hp4 hgw4 b0 b1 b2 b3 nb4 n0 n1 n2 n3
          have hs5 : w3.heap.size ≤ w5.heap.size := by omega
          clear hz4 hz5
          go_wp2_with (first
            | (at_builtin
               go_must (refine wpList_append_lies _ rfl _ _ 26 rfl w3.heap.size 3 i0 _ 1 8 Try.underlying26 hi0' hz0 hz1' hz2' rfl (by omega) (.slice (some ⟨g, 0, none⟩) q k1) q _ rfl (hown5.alloc _) ⟨w5.heap.size, 0, none⟩ 1 1 [.int .i64 x5] rfl rfl (World.news_of_block (cs := #[.int .i64 x5]) (t := 3) (fr := (0, 0)) (heap_alloc_new _ _)) (by simp [Value.oneCell']) (by omega) (by unfold maxLen; omega) (by omega) (by simp; omega) _ rfl ?_)
               intro g2 k2 w7 hown7 hgr7 hat7 hlt7
               go_must (have hb7 : Below w3.heap.size w5 w7 := Below.grown (w := w5.alloc (.cells #[.int .i64 x5] 3)) (by (repeat (first | (with_reducible assumption) | (with_reducible exact Below.refl _ _) | ((with_reducible refine Below.alloc ?_ ?hsz _); (case hsz => (first | omega | (simp; done) | (simp; omega) | (simp at *; omega)))) | ((with_reducible refine Below.setCell ?_ ?hsz _); (case hsz => (first | omega | (simp; done) | (simp; omega) | (simp at *; omega)))) | (with_reducible refine Below.drew ?_) | (with_reducible refine below_drewN ?_ _) | ((with_reducible refine Below.trans ?_ (Below.mono (by with_reducible assumption) ?hsz)); (case hsz => (first | omega | (simp; done) | (simp; omega) | (simp at *; omega))))))) hgr7 (by (first | omega | (simp; done) | (simp; omega) | (simp at *; omega))) hrow)
               go_must (have bx7 := (bx5.keep (w' := w5.alloc (.cells #[.int .i64 x5] 3)) (by (repeat (first | (with_reducible assumption) | (with_reducible exact Below.refl _ _) | ((with_reducible refine Below.alloc ?_ ?hsz _); (case hsz => (first | omega | (simp; done) | (simp; omega) | (simp at *; omega)))) | ((with_reducible refine Below.setCell ?_ ?hsz _); (case hsz => (first | omega | (simp; done) | (simp; omega) | (simp at *; omega)))) | (with_reducible refine Below.drew ?_) | (with_reducible refine below_drewN ?_ _) | ((with_reducible refine Below.trans ?_ (Below.mono (by with_reducible assumption) ?hsz)); (case hsz => (first | omega | (simp; done) | (simp; omega) | (simp at *; omega)))))))).grown hgr7 (by intro hh; have := hrow _ hh.symm; omega))
               go_must (have nb7 := (nb5.keep (w' := w5.alloc (.cells #[.int .i64 x5] 3)) (by (repeat (first | (with_reducible assumption) | (with_reducible exact Below.refl _ _) | ((with_reducible refine Below.alloc ?_ ?hsz _); (case hsz => (first | omega | (simp; done) | (simp; omega) | (simp at *; omega)))) | ((with_reducible refine Below.setCell ?_ ?hsz _); (case hsz => (first | omega | (simp; done) | (simp; omega) | (simp at *; omega)))) | (with_reducible refine Below.drew ?_) | (with_reducible refine below_drewN ?_ _) | ((with_reducible refine Below.trans ?_ (Below.mono (by with_reducible assumption) ?hsz)); (case hsz => (first | omega | (simp; done) | (simp; omega) | (simp at *; omega)))))))).grown hgr7 (by intro hh; have := hrow _ hh.symm; omega))
               obtain ⟨bs7, b0, b1, b2, b3⟩ := id bx7
               obtain ⟨ns7, n0, n1, n2, n3⟩ := id nb7))
          have hp7 : Pipes w7 w1.heap.size (.slice PA ps.length pc) ps := (hp5.alloc' _).grownFar hgr7 (fun q hq p hp => Nat.lt_of_lt_of_le (hpb.out p hp) (hrow q hq))
          have hgw7 : Below w.heap.size w w7 := hgw5.trans (hb7.mono (by omega))
          have hI7 : Ints w7 w3.heap.size (.slice (some ⟨g2, 0, none⟩) (q + 1) k2) (ys ++ [x5]) := ⟨by rw [List.length_append, Hyl.out, List.map_append]; exact hown7, by rw [List.length_append, Hyl.out]; unfold small; simp; omega⟩
          refine bodyPost_ret (v := .tuple #[.agg #[.int .i64 z, .slice PA ps.length pc], .slice (some ⟨g2, 0, none⟩) (q + 1) k2, .int .i64 i, .int .i64 j]) (by simp [results, Try.results18, go_sem, b0, b1]) rfl ⟨z, ps, _, ys ++ [x5], _, i, j, rfl, ?_, ?_, ?_, hl8, hzl, hzh, hi0, hj0, hiz⟩
          · refine Pipes.mono (b := w1.heap.size) ?_ (by omega)
            (repeat (first | (with_reducible assumption) | ((with_reducible refine Pipes.setLow ?_ ?hsz); (case hsz => (first | omega | (simp; done) | (simp; omega) | (simp at *; omega)))) | (with_reducible refine Pipes.alloc' ?_ _) | (with_reducible refine Pipes.drew' ?_) | (with_reducible refine Pipes.drewN' ?_ _) | ((with_reducible refine Pipes.keep ?_ (by with_reducible assumption)))))
          · refine Ints.mono (b := w3.heap.size) ?_ (by omega)
            (repeat (first | (with_reducible assumption) | ((with_reducible refine Ints.setLow ?_ ?hsz); (case hsz => (first | omega | (simp; done) | (simp; omega) | (simp at *; omega)))) | (with_reducible refine Ints.alloc' ?_ _) | (with_reducible refine Ints.drew' ?_) | (with_reducible refine Ints.drewN' ?_ _) | ((with_reducible refine Ints.keep ?_ (by with_reducible assumption)))))
          · (repeat (first | (with_reducible assumption) | (with_reducible exact Below.refl _ _) | ((with_reducible refine Below.alloc ?_ ?hsz _); (case hsz => (first | omega | (simp; done) | (simp; omega) | (simp at *; omega)))) | ((with_reducible refine Below.setCell ?_ ?hsz _); (case hsz => (first | omega | (simp; done) | (simp; omega) | (simp at *; omega)))) | (with_reducible refine Below.drew ?_) | (with_reducible refine below_drewN ?_ _) | ((with_reducible refine Below.trans ?_ (Below.mono (by with_reducible assumption) ?hsz)); (case hsz => (first | omega | (simp; done) | (simp; omega) | (simp at *; omega))))))
      · go_wp2_with fail
        refine (odd_any 4 (w.heap.size + 1) m c _ A _ hr (by omega) (by omega) (by omega)).mono ?_
        rintro e w4 ⟨bb, rfl, hr4, hg4, hz4⟩
        have hown4 := own_grow hown hg4 (fun q hq => by injection hq with hq; omega)
        have bx4 := hbx.grown hg4 (by simp)
        have nb4 := nb.grown hg4 (by simp; omega)
        have hp4 := hp.grown hg4 (by omega)
        have hgw4 : Below w.heap.size w w4 := hgw.trans (below_grow hg4 (by omega) (fun q hq => by injection hq with hq; omega))
        clear hown hg4 hbx hp hgw nb
        obtain ⟨bs4, b0, b1, b2, b3⟩ := id bx4
        obtain ⟨ns4, n0, n1, n2, n3⟩ := id nb4
        cases bb with
        | false =>
          go_wp2
          have hI4 : Ints w4 w3.heap.size (.slice (some ⟨g, 0, none⟩) q k1) ys := ⟨by rw [Hyl.out]; exact hown4, by rw [Hyl.out]; unfold small; omega⟩
          refine bodyPost_ret (v := .tuple #[.agg #[.int .i64 z, .slice PA ps.length pc], .slice (some ⟨g, 0, none⟩) q k1, .int .i64 i, .int .i64 j]) (by simp [results, Try.results18, go_sem, b0, b1]) rfl ⟨z, ps, _, ys, _, i, j, rfl, ?_, ?_, ?_, hl8, hzl, hzh, hi0, hj0, hiz⟩
          · refine Pipes.mono (b := w1.heap.size) ?_ (by omega)
            (repeat (first | (with_reducible assumption) | ((with_reducible refine Pipes.setLow ?_ ?hsz); (case hsz => (first | omega | (simp; done) | (simp; omega) | (simp at *; omega)))) | (with_reducible refine Pipes.alloc' ?_ _) | (with_reducible refine Pipes.drew' ?_) | (with_reducible refine Pipes.drewN' ?_ _) | ((with_reducible refine Pipes.keep ?_ (by with_reducible assumption)))))
          · refine Ints.mono (b := w3.heap.size) ?_ (by omega)
            (repeat (first | (with_reducible assumption) | ((with_reducible refine Ints.setLow ?_ ?hsz); (case hsz => (first | omega | (simp; done) | (simp; omega) | (simp at *; omega)))) | (with_reducible refine Ints.alloc' ?_ _) | (with_reducible refine Ints.drew' ?_) | (with_reducible refine Ints.drewN' ?_ _) | ((with_reducible refine Ints.keep ?_ (by with_reducible assumption)))))
          · (repeat (first | (with_reducible assumption) | (with_reducible exact Below.refl _ _) | ((with_reducible refine Below.alloc ?_ ?hsz _); (case hsz => (first | omega | (simp; done) | (simp; omega) | (simp at *; omega)))) | ((with_reducible refine Below.setCell ?_ ?hsz _); (case hsz => (first | omega | (simp; done) | (simp; omega) | (simp at *; omega)))) | (with_reducible refine Below.drew ?_) | (with_reducible refine below_drewN ?_ _) | ((with_reducible refine Below.trans ?_ (Below.mono (by with_reducible assumption) ?hsz)); (case hsz => (first | omega | (simp; done) | (simp; omega) | (simp at *; omega))))))
        | true =>
          go_wp2_with fail
          refine (pick_any ((ps.length : Int) + 1) (w.heap.size + 1) m c _ A _ hr4 (by omega) (by omega) (by omega)).mono ?_
          rintro e w5 ⟨x5, rfl, x50, x51, hr5, hg5, hz5⟩
          have hown5 := own_grow hown4 hg5 (fun q hq => by injection hq with hq; omega)
          have bx5 := bx4.grown hg5 (by simp)
          have nb5 := nb4.grown hg5 (by simp; omega)
          have hp5 := hp4.grown hg5 (by omega)
          have hgw5 : Below w.heap.size w w5 := hgw4.trans (below_grow hg5 (by omega) (fun q hq => by injection hq with hq; omega))
          clear hown4 hg5 bx4 hp4 hgw4 b0 b1 b2 b3 nb4 n0 n1 n2 n3
          have hs5 : w3.heap.size ≤ w5.heap.size := by omega
          clear hz4 hz5
          go_wp2_with (first
            | (at_builtin
               go_must (refine wpList_append_lies _ rfl _ _ 26 rfl w3.heap.size 3 i0 _ 1 8 Try.underlying26 hi0' hz0 hz1' hz2' rfl (by omega) (.slice (some ⟨g, 0, none⟩) q k1) q _ rfl (hown5.alloc _) ⟨w5.heap.size, 0, none⟩ 1 1 [.int .i64 x5] rfl rfl (World.news_of_block (cs := #[.int .i64 x5]) (t := 3) (fr := (0, 0)) (heap_alloc_new _ _)) (by simp [Value.oneCell']) (by omega) (by unfold maxLen; omega) (by omega) (by simp; omega) _ rfl ?_)
               intro g2 k2 w7 hown7 hgr7 hat7 hlt7
               go_must (have hb7 : Below w3.heap.size w5 w7 := Below.grown (w := w5.alloc (.cells #[.int .i64 x5] 3)) (by (repeat (first | (with_reducible assumption) | (with_reducible exact Below.refl _ _) | ((with_reducible refine Below.alloc ?_ ?hsz _); (case hsz => (first | omega | (simp; done) | (simp; omega) | (simp at *; omega)))) | ((with_reducible refine Below.setCell ?_ ?hsz _); (case hsz => (first | omega | (simp; done) | (simp; omega) | (simp at *; omega)))) | (with_reducible refine Below.drew ?_) | (with_reducible refine below_drewN ?_ _) | ((with_reducible refine Below.trans ?_ (Below.mono (by with_reducible assumption) ?hsz)); (case hsz => (first | omega | (simp; done) | (simp; omega) | (simp at *; omega))))))) hgr7 (by (first | omega | (simp; done) | (simp; omega) | (simp at *; omega))) hrow)
               go_must (have bx7 := (bx5.keep (w' := w5.alloc (.cells #[.int .i64 x5] 3)) (by (repeat (first | (with_reducible assumption) | (with_reducible exact Below.refl _ _) | ((with_reducible refine Below.alloc ?_ ?hsz _); (case hsz => (first | omega | (simp; done) | (simp; omega) | (simp at *; omega)))) | ((with_reducible refine Below.setCell ?_ ?hsz _); (case hsz => (first | omega | (simp; done) | (simp; omega) | (simp at *; omega)))) | (with_reducible refine Below.drew ?_) | (with_reducible refine below_drewN ?_ _) | ((with_reducible refine Below.trans ?_ (Below.mono (by with_reducible assumption) ?hsz)); (case hsz => (first | omega | (simp; done) | (simp; omega) | (simp at *; omega)))))))).grown hgr7 (by intro hh; have := hrow _ hh.symm; omega))
               go_must (have nb7 := (nb5.keep (w' := w5.alloc (.cells #[.int .i64 x5] 3)) (by (repeat (first | (with_reducible assumption) | (with_reducible exact Below.refl _ _) | ((with_reducible refine Below.alloc ?_ ?hsz _); (case hsz => (first | omega | (simp; done) | (simp; omega) | (simp at *; omega)))) | ((with_reducible refine Below.setCell ?_ ?hsz _); (case hsz => (first | omega | (simp; done) | (simp; omega) | (simp at *; omega)))) | (with_reducible refine Below.drew ?_) | (with_reducible refine below_drewN ?_ _) | ((with_reducible refine Below.trans ?_ (Below.mono (by with_reducible assumption) ?hsz)); (case hsz => (first | omega | (simp; done) | (simp; omega) | (simp at *; omega)))))))).grown hgr7 (by intro hh; have := hrow _ hh.symm; omega))
               obtain ⟨bs7, b0, b1, b2, b3⟩ := id bx7
               obtain ⟨ns7, n0, n1, n2, n3⟩ := id nb7))
          have hp7 : Pipes w7 w1.heap.size (.slice PA ps.length pc) ps := (hp5.alloc' _).grownFar hgr7 (fun q hq p hp => Nat.lt_of_lt_of_le (hpb.out p hp) (hrow q hq))
          have hgw7 : Below w.heap.size w w7 := hgw5.trans (hb7.mono (by omega))
          have hI7 : Ints w7 w3.heap.size (.slice (some ⟨g2, 0, none⟩) (q + 1) k2) (ys ++ [x5]) := ⟨by rw [List.length_append, Hyl.out, List.map_append]; exact hown7, by rw [List.length_append, Hyl.out]; unfold small; simp; omega⟩
          refine bodyPost_ret (v := .tuple #[.agg #[.int .i64 z, .slice PA ps.length pc], .slice (some ⟨g2, 0, none⟩) (q + 1) k2, .int .i64 i, .int .i64 j]) (by simp [results, Try.results18, go_sem, b0, b1]) rfl ⟨z, ps, _, ys ++ [x5], _, i, j, rfl, ?_, ?_, ?_, hl8, hzl, hzh, hi0, hj0, hiz⟩
          · refine Pipes.mono (b := w1.heap.size) ?_ (by omega)
            (repeat (first | (with_reducible assumption) | ((with_reducible refine Pipes.setLow ?_ ?hsz); (case hsz => (first | omega | (simp; done) | (simp; omega) | (simp at *; omega)))) | (with_reducible refine Pipes.alloc' ?_ _) | (with_reducible refine Pipes.drew' ?_) | (with_reducible refine Pipes.drewN' ?_ _) | ((with_reducible refine Pipes.keep ?_ (by with_reducible assumption)))))
          · refine Ints.mono (b := w3.heap.size) ?_ (by omega)
            (repeat (first | (with_reducible assumption) | ((with_reducible refine Ints.setLow ?_ ?hsz); (case hsz => (first | omega | (simp; done) | (simp; omega) | (simp at *; omega)))) | (with_reducible refine Ints.alloc' ?_ _) | (with_reducible refine Ints.drew' ?_) | (with_reducible refine Ints.drewN' ?_ _) | ((with_reducible refine Ints.keep ?_ (by with_reducible assumption)))))
          · (repeat (first | (with_reducible assumption) | (with_reducible exact Below.refl _ _) | ((with_reducible refine Below.alloc ?_ ?hsz _); (case hsz => (first | omega | (simp; done) | (simp; omega) | (simp at *; omega)))) | ((with_reducible refine Below.setCell ?_ ?hsz _); (case hsz => (first | omega | (simp; done) | (simp; omega) | (simp at *; omega)))) | (with_reducible refine Below.drew ?_) | (with_reducible refine below_drewN ?_ _) | ((with_reducible refine Below.trans ?_ (Below.mono (by with_reducible assumption) ?hsz)); (case hsz => (first | omega | (simp; done) | (simp; omega) | (simp at *; omega))))))

end Go.Proofs.Ytlaeckjfjleplaa
