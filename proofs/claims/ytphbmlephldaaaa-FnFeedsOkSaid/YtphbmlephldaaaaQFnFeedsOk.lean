/- FnFeedsOk: for every code the law holds: the program's FeedsOk answers as the model; with all signs of needs exchanged it holds of the turned net exactly if it does; and empty pipes feed just needs of nothing. No condition. -/
import Derived.Test.YtphbmlephldaaaaGQ26
import Derived.Test.YtphbmlephldaaaaDJ
import Derived.Test.YtphbmlephldaaaaGQ17
import Derived.Test.YtphbmlephldaaaaZA
import Derived.Test.YtphbmlephldaaaaZ4
import Derived.Test.YtphbmlephldaaaaC8
import Derived.Test.YtphbmlephldaaaaW5
import Derived.Test.YtphbmlephldaaaaGQ14
import Derived.Test.YtphbmlephldaaaaGQ19
namespace Go.Proofs.Ytphbmlephldaaaa.lawFeedsOk
open Go.ChangeShapes Go.WideShapes Go.ChangeAt Go.RowKit Go.Deep Go.Joins

theorem feeds_none {n : Int} {ps : List Pp} {nd : List Int} (h : needsB n ps nd = true) : feedsB n ps (List.replicate ps.length 0) nd = nd.all fun x => x == 0 := by
  have hl := (needs_parts h).2.1
  rw [feedsB, needs_holds h, h, Bool.true_and, Bool.true_and, Bool.eq_iff_iff, zeroD_iff, List.all_eq_true]
  have e : ∀ v : Nat, dN nd ps (List.replicate ps.length 0) v = -nd.getD v 0 := fun v => by
    unfold dN
    rw [show exc (v : Int) ps (List.replicate ps.length 0) = 0 from exc_zeros v ps]
    omega
  simp only [e, beq_iff_eq]
  refine ⟨fun hz x hx => ?_, fun hz v hv => ?_⟩
  · obtain ⟨v, hv, rfl⟩ := List.getElem_of_mem hx
    have := hz v (by omega)
    rw [getD_at hv] at this
    omega
  · have hv' : v < nd.length := by omega
    rw [getD_at hv', hz _ (List.getElem_mem hv')]
    rfl

/-- what the operations of the law's end yield -/
def foV (B z0 M : Nat) (N : Int) (v so o : Value) (A1 : Option Addr) (c1 : Nat) (ps : List Pp) (t q : Bool) : Nat → Value → World → Prop
  | 0, x, _ => x = .agg #[.int .i64 N, .slice A1 M c1]
  | 1, x, wx => ∃ s, x = .agg #[.int .i64 N, s] ∧ Pipes wx B s (ps.map turnP)
  | 2, x, _ => x = v
  | 3, x, _ => x = so
  | 4, x, _ => x = .bool t
  | 5, x, _ => x = .bool t
  | 6, x, _ => x = .bool true
  | 7, x, _ => x = .bool true
  | 8, x, _ => x = .agg #[.int .i64 N, .slice A1 M c1]
  | 9, x, _ => x = .pointer (some ⟨z0, 1, none⟩)
  | 10, x, _ => x = .slice A1 M c1
  | 11, x, _ => x = .int .i64 M
  | 12, x, wx => Ints wx B x (List.replicate M 0)
  | 13, x, _ => x = o
  | 14, x, _ => x = .bool q
  | 15, x, _ => x = .bool q
  | 16, x, _ => x = .bool true
  | 17, x, _ => x = .bool true
  | 18, x, _ => x = .bool true
  | _, _, _ => True

set_option maxRecDepth 20000 in
set_option maxHeartbeats 4000000 in
set_option maxRecDepth 20000 in
theorem walk (v : Value) (n : Nat) (w : World) (h : ArgBytes w v n) :
    Calls Try.prog 9 #[v] w fun e w' => e = .returned (.bool true) ∧ Below w.heap.size w w' := by
  obtain ⟨A, c, rfl, hc1, hc2, -⟩ := id h
  unfold maxLen at hc2
  by_cases hbig : 1048576 < n
  · go_enter Try.func9, Try.ntmps9
    go_wp2
    go_ret
    exact ⟨rfl, by (repeat (first | (with_reducible assumption) | (with_reducible exact Below.refl _ _) | ((with_reducible refine Below.alloc ?_ ?hsz _); (case hsz => (first | omega | (simp; done) | (simp; omega) | (simp at *; omega)))) | ((with_reducible refine Below.setCell ?_ ?hsz _); (case hsz => (first | omega | (simp; done) | (simp; omega) | (simp at *; omega)))) | (with_reducible refine Below.drew ?_) | (with_reducible refine below_drewN ?_ _) | ((with_reducible refine Below.trans ?_ (Below.mono (by with_reducible assumption) ?hsz)); (case hsz => (first | omega | (simp; done) | (simp; omega) | (simp at *; omega))))))⟩
  go_enter Try.func9, Try.ntmps9
  go_wp2_with fail
  with_reducible refine (drawFeedsOk_any _ n _ (h.keep (by (repeat (first | (with_reducible assumption) | (with_reducible exact Below.refl _ _) | ((with_reducible refine Below.alloc ?_ ?hsz _); (case hsz => (first | omega | (simp; done) | (simp; omega) | (simp at *; omega)))) | ((with_reducible refine Below.setCell ?_ ?hsz _); (case hsz => (first | omega | (simp; done) | (simp; omega) | (simp at *; omega)))) | (with_reducible refine Below.drew ?_) | (with_reducible refine below_drewN ?_ _) | ((with_reducible refine Below.trans ?_ (Below.mono (by with_reducible assumption) ?hsz)); (case hsz => (first | omega | (simp; done) | (simp; omega) | (simp at *; omega))))))))).mono ?_
  rintro e w1 ⟨z, ps, u, f, o, xs, nd, rfl, hp, hx, ho, hb1, hl8, hz1, hz6, hn6, hnb⟩
  have hBw1 : Below w.heap.size w w1 := by (repeat (first | (with_reducible assumption) | (with_reducible exact Below.refl _ _) | ((with_reducible refine Below.alloc ?_ ?hsz _); (case hsz => (first | omega | (simp; done) | (simp; omega) | (simp at *; omega)))) | ((with_reducible refine Below.setCell ?_ ?hsz _); (case hsz => (first | omega | (simp; done) | (simp; omega) | (simp at *; omega)))) | (with_reducible refine Below.drew ?_) | (with_reducible refine below_drewN ?_ _) | ((with_reducible refine Below.trans ?_ (Below.mono (by with_reducible assumption) ?hsz)); (case hsz => (first | omega | (simp; done) | (simp; omega) | (simp at *; omega))))))
  clear h hc1 hc2 hbig
  obtain ⟨A1, c1, rfl, hk1, hk2, hsm, -⟩ := hp.form
  unfold maxLen at hk2
  have bx1 : Box2 (w1.alloc (.cells #[.int .i64 z, .slice A1 ps.length c1] 25)) w1.heap.size (.int .i64 z) (.slice A1 ps.length c1) := Box2.new _ _ _ _
  have hB1 : Below w1.heap.size w1 (w1.alloc (.cells #[.int .i64 z, .slice A1 ps.length c1] 25)) := by (repeat (first | (with_reducible assumption) | (with_reducible exact Below.refl _ _) | ((with_reducible refine Below.alloc ?_ ?hsz _); (case hsz => (first | omega | (simp; done) | (simp; omega) | (simp at *; omega)))) | ((with_reducible refine Below.setCell ?_ ?hsz _); (case hsz => (first | omega | (simp; done) | (simp; omega) | (simp at *; omega)))) | (with_reducible refine Below.drew ?_) | (with_reducible refine below_drewN ?_ _) | ((with_reducible refine Below.trans ?_ (Below.mono (by with_reducible assumption) ?hsz)); (case hsz => (first | omega | (simp; done) | (simp; omega) | (simp at *; omega))))))
  obtain ⟨A2, c2, rfl, hk3, hk4, -, -⟩ := ho.form
  unfold maxLen at hk4
  obtain ⟨A3, c3, rfl, -, -, -, -⟩ := hx.form
  obtain ⟨mo, hmo⟩ : ∃ m, nd.length = m := ⟨_, rfl⟩
  obtain ⟨mx, hmx⟩ : ∃ m, xs.length = m := ⟨_, rfl⟩
  rw [hmo] at ho hk3 hn6 ⊢
  rw [hmx] at hx ⊢
  have Hmo := Lib.hid hmo
  have Hnb := Lib.hid hnb
  clear hmo hnb hmx
  obtain ⟨bs, d0, d1, g0, g1⟩ := id bx1
  go_wp2_with fail
  with_reducible refine (feedsOk_any z _ _ _ ps xs nd _ _ _ _ (hp.keep hB1) (hx.keep hB1) (ho.keep hB1)).mono ?_
  rintro e w2 ⟨rfl, hnn⟩
  have bx2 := (bx1).keep hnn
  have hB2 : Below w1.heap.size w1 w2 := by (repeat (first | (with_reducible assumption) | (with_reducible exact Below.refl _ _) | ((with_reducible refine Below.alloc ?_ ?hsz _); (case hsz => (first | omega | (simp; done) | (simp; omega) | (simp at *; omega)))) | ((with_reducible refine Below.setCell ?_ ?hsz _); (case hsz => (first | omega | (simp; done) | (simp; omega) | (simp at *; omega)))) | (with_reducible refine Below.drew ?_) | (with_reducible refine below_drewN ?_ _) | ((with_reducible refine Below.trans ?_ (Below.mono (by with_reducible assumption) ?hsz)); (case hsz => (first | omega | (simp; done) | (simp; omega) | (simp at *; omega))))))
  clear hnn
  (try clear d0 d1 g0 g1)
  obtain ⟨bs, d0, d1, g0, g1⟩ := id bx2
  go_wp2_with fail
  with_reducible refine (specFeedsOk_any z _ _ _ ps xs nd _ _ _ _ (hp.keep hB2) (hx.keep hB2) (ho.keep hB2)).mono ?_
  rintro e w3 ⟨rfl, hnn⟩
  have bx3 := (bx2).keep hnn
  have hB3 : Below w1.heap.size w1 w3 := by (repeat (first | (with_reducible assumption) | (with_reducible exact Below.refl _ _) | ((with_reducible refine Below.alloc ?_ ?hsz _); (case hsz => (first | omega | (simp; done) | (simp; omega) | (simp at *; omega)))) | ((with_reducible refine Below.setCell ?_ ?hsz _); (case hsz => (first | omega | (simp; done) | (simp; omega) | (simp at *; omega)))) | (with_reducible refine Below.drew ?_) | (with_reducible refine below_drewN ?_ _) | ((with_reducible refine Below.trans ?_ (Below.mono (by with_reducible assumption) ?hsz)); (case hsz => (first | omega | (simp; done) | (simp; omega) | (simp at *; omega))))))
  clear hnn
  (try clear d0 d1 g0 g1)
  obtain ⟨bs, d0, d1, g0, g1⟩ := id bx3
  obtain ⟨t, ht⟩ : ∃ t, feedsB z ps xs nd = t := ⟨_, rfl⟩
  rw [ht]
  go_wp2_with fail
  with_reducible refine (specNeedsOk_any z _ _ ps nd _ _ _ (hp.keep hB3) (ho.keep hB3)).mono ?_
  rintro e w4 ⟨rfl, hnn⟩
  have bx4 := (bx3).keep hnn
  have hB4 : Below w1.heap.size w1 w4 := by (repeat (first | (with_reducible assumption) | (with_reducible exact Below.refl _ _) | ((with_reducible refine Below.alloc ?_ ?hsz _); (case hsz => (first | omega | (simp; done) | (simp; omega) | (simp at *; omega)))) | ((with_reducible refine Below.setCell ?_ ?hsz _); (case hsz => (first | omega | (simp; done) | (simp; omega) | (simp at *; omega)))) | (with_reducible refine Below.drew ?_) | (with_reducible refine below_drewN ?_ _) | ((with_reducible refine Below.trans ?_ (Below.mono (by with_reducible assumption) ?hsz)); (case hsz => (first | omega | (simp; done) | (simp; omega) | (simp at *; omega))))))
  clear hnn
  (try clear d0 d1 g0 g1)
  obtain ⟨bs, d0, d1, g0, g1⟩ := id bx4
  by_cases hn : needsB z ps nd = true
  · have hok := free_net (needs_parts hn).1
    have HN := Lib.hid (feeds_none hn)
    have HT := Lib.hid (show feedsB z (ps.map turnP) xs (negN nd) = t by rw [feeds_turn, ht])
    rw [hn]
    clear hn ht
    obtain ⟨M, hM⟩ : ∃ M, ps.length = M := ⟨_, rfl⟩
    rw [hM] at hp hk1 hl8 hsm bx4 d1 HN ⊢
    have hmk := fun W => run_make_ints (n := M) (by omega) W
    have HM := Lib.hid hM
    clear hM bx1 bx2 bx3
    have HE := Lib.hid (ints_empty5 w4 (b := w4.heap.size) (g := w4.heap.size) (Nat.le_refl _) rfl)
    have hbE : Below w4.heap.size w4 (w4.alloc (.cells #[] 3)) := by (repeat (first | (with_reducible assumption) | (with_reducible exact Below.refl _ _) | ((with_reducible refine Below.alloc ?_ ?hsz _); (case hsz => (first | omega | (simp; done) | (simp; omega) | (simp at *; omega)))) | ((with_reducible refine Below.setCell ?_ ?hsz _); (case hsz => (first | omega | (simp; done) | (simp; omega) | (simp at *; omega)))) | (with_reducible refine Below.drew ?_) | (with_reducible refine below_drewN ?_ _) | ((with_reducible refine Below.trans ?_ (Below.mono (by with_reducible assumption) ?hsz)); (case hsz => (first | omega | (simp; done) | (simp; omega) | (simp at *; omega))))))
    have hzw4 := hB4.size
    obtain ⟨i0, hi0, hz0, hz1', hz2'⟩ := info_parts int_info
    go_wp2_with fail
    go_loopw [9, 7, 8] (fun i t q wr => ∃ (j cap : Nat) (Ao : Option Addr), j ≤ mo ∧ i = .int .i64 j ∧ t = .slice Ao j cap ∧ q = .bool ((nd.take j).all fun x => x == 0) ∧ Ints wr w4.heap.size (.slice Ao j cap) (negN (nd.take j)) ∧ Below w4.heap.size w4 wr) (fun i _ _ _ => mo - (intOf i).toNat)
    case atStart => exact ⟨0, 0, some ⟨w4.heap.size, 0, none⟩, by omega, rfl, rfl, rfl, by simpa [negN] using HE.out, hbE⟩
    case round =>
      clear bs d0 d1 g0 g1 hbE
      obtain ⟨j, cap, Ao, hj, rfl, rfl, rfl, hI, hb⟩ := hrel
      have hzb := hb.size
      have hlk : (negN (nd.take j)).length = j := by rw [negN_len, List.length_take, Hmo.out]; omega
      by_cases hjl : j < mo
      · obtain ⟨g, rfl, hg1, hg2, cN4, -⟩ := (ho.keep hB4).at' j (by rw [Hmo.out]; exact hjl)
        have cN := (hb.cell (p := ⟨g, j, none⟩) hg2).trans cN4
        have hgr := Nat.lt_of_lt_of_le hg2 hzb
        clear cN4
        have hsn : Hid (negN (nd.take (j + 1)) = negN (nd.take j) ++ [-(nd[j]'(by rw [Hmo.out]; exact hjl))]) := Lib.hid (by rw [List.take_succ_eq_append_getElem (by rw [Hmo.out]; exact hjl), negN, List.map_append]; rfl)
        have hall : Hid (((nd.take (j + 1)).all fun x => x == 0) = (((nd.take j).all fun x => x == 0) && (nd[j]'(by rw [Hmo.out]; exact hjl) == 0))) := Lib.hid (by rw [List.take_succ_eq_append_getElem (by rw [Hmo.out]; exact hjl), List.all_append]; simp)
        obtain ⟨x1, x2⟩ := Hnb.out _ (List.getElem_mem (show j < nd.length by rw [Hmo.out]; exact hjl))
        generalize nd[j]'(by rw [Hmo.out]; exact hjl) = x at *
        have hI2 := hI.keep ((Below.refl wr.heap.size wr).alloc (Nat.le_refl _) (.cells #[.int .i64 (-x)] 3))
        have hown2 : (wr.alloc (.cells #[.int .i64 (-x)] 3)).ownsRow w4.heap.size 3 1 (.slice Ao j cap) j ((negN (nd.take j)).map (Value.int .i64)) := by
          have := hI2.1
          rw [hlk] at this
          exact this
        have hb2 : Below w4.heap.size w4 (wr.alloc (.cells #[.int .i64 (-x)] 3)) := by (repeat (first | (with_reducible assumption) | (with_reducible exact Below.refl _ _) | ((with_reducible refine Below.alloc ?_ ?hsz _); (case hsz => (first | omega | (simp; done) | (simp; omega) | (simp at *; omega)))) | ((with_reducible refine Below.setCell ?_ ?hsz _); (case hsz => (first | omega | (simp; done) | (simp; omega) | (simp at *; omega)))) | (with_reducible refine Below.drew ?_) | (with_reducible refine below_drewN ?_ _) | ((with_reducible refine Below.trans ?_ (Below.mono (by with_reducible assumption) ?hsz)); (case hsz => (first | omega | (simp; done) | (simp; omega) | (simp at *; omega))))))
        generalize ((nd.take j).all fun x => x == 0) = q at *
        go_upto_region 15 with (first
          | (at_builtin
             go_must (refine wpList_append_src rfl _ _ 40 rfl w4.heap.size 3 i0 _ 1 8 Try.underlying40 hi0 hz0 hz1' hz2' rfl (by omega) _ _ j 1 _ _ (by rfl) rfl hown2 (lit_src (heap_alloc_new _ _) rfl (by simp [Value.oneCell'])) (by unfold maxLen; omega) (by omega) (by simp; omega) ?_)
             intro r7 w7 hown7 hgr7 hat7))
        have hr7 : Ints w7 w4.heap.size r7 (negN (nd.take j) ++ [-x]) := ints_snoc (xs := negN (nd.take j)) (by rw [hlk]; exact hown7) (by rw [hlk]; unfold small; omega)
        have hb7 : Below w4.heap.size w4 w7 := Below.grown hb2 hgr7 hb2.size (fun q hq => (hown2.lt q hq).1)
        obtain ⟨A7, c7, hv, -⟩ := hr7.form
        have hl7' : (negN (nd.take j) ++ [-x]).length = j + 1 := by rw [List.length_append, hlk]; rfl
        rw [hl7'] at hv
        subst hv
        have cN7 := (hb7.cell (p := ⟨g, j, none⟩) (show g < w4.heap.size by omega))
        have cN8 := (ho.keep (hB4.trans (hb7.mono hzw4))).at' j (by rw [Hmo.out]; exact hjl)
        clear hown7 hgr7 hat7 hown2 hb2 hI2 hI cN7 cN8
        have cN2 : w7.cell? ⟨g, j, none⟩ = some (.int .i64 x) := by
          rw [hb7.cell (p := ⟨g, j, none⟩) (show g < w4.heap.size by omega), ← hb.cell (p := ⟨g, j, none⟩) (show g < w4.heap.size by omega)]
          exact cN
        cases q
        all_goals
          go_wp2
          go_roundw
          case rel => exact ⟨j + 1, c7, A7, by omega, by go_num, rfl, by rw [hall.out]; simp, by rw [hsn.out]; exact hr7, hb7⟩
          case measure => simp [intOf]; omega
      · have hjm : j = mo := by omega
        subst hjm
        have hIo : Ints wr w4.heap.size (.slice Ao j cap) (negN nd) := by
          have := hI
          rwa [List.take_of_length_le (by rw [Hmo.out]; omega)] at this
        rw [List.take_of_length_le (show nd.length ≤ j by rw [Hmo.out]; omega)]
        have bxE := bx4.keep hb
        have hBE := hB4.trans (hb.mono hzw4)
        have hzE := hBE.size
        clear hI hlk HE
        obtain ⟨bs, d0, d1, g0, g1⟩ := id bxE
        obtain ⟨q, hq⟩ : ∃ q, (nd.all fun x => x == 0) = q := ⟨_, rfl⟩
        rw [hq] at HN ⊢
        clear hb hq
        go_wp2_with fail
        refine wp_region_flow 19 none [(0, 61), (1, 62), (2, 63), (3, 64), (4, 65), (5, 66), (6, 67), (7, 68), (8, 69), (9, 70), (10, 71), (11, 72), (12, 73), (13, 74), (14, 75), (15, 76), (16, 77), (17, 78), (18, 2)] (fun i x _ wx => foV wr.heap.size w1.heap.size M z (.slice A3 mx c3) (.slice Ao j cap) (.slice A2 j c2) A1 c1 ps t q i x wx) (fun _ wx wy => Below wx.heap.size wx wy) (fun _ wx => Below wr.heap.size wr wx) (by kernel_rfl) (by kernel_rfl) rfl ⟨rfl, rfl, rfl, Nat.le_refl _, fun _ _ => rfl⟩ ?_ ?_ ?_ ?_
        · intro i k hi hk hal x u wx wy hR hV
          have hk' : k < 19 := hk
          have hb : Below wx.heap.size wx wy := hR
          rcases k with _ | _ | _ | _ | _ | _ | _ | _ | _ | _ | _ | _ | _ | _ | _ | _ | _ | _ | _ | k
          all_goals first | exact hV | (exfalso; omega) | skip
          · obtain ⟨s, h1, h2⟩ := hV; exact ⟨s, h1, h2.keep hb⟩
          · exact Ints.keep hV hb
        · exact fun _ _ _ _ _ _ _ h => h
        · simp (maxSteps := 4000000) only [eachOp, fillF, List.setIfInBounds_toArray, List.set_cons_succ, List.set_cons_zero]
          refine ⟨?_, ?_, ?_, ?_, ?_, ?_, ?_, ?_, ?_, ?_, ?_, ?_, ?_, ?_, ?_, ?_, ?_, ?_, ?_, trivial⟩ <;> intro u f wx hC hd <;> (try simp [allV, useOf, Region.binds] at hd) <;> have e0 := (bel_cell hC bs).trans d0 <;> have e1 := (bel_cell hC bs).trans d1
          · go_wp2
            exact ⟨_, rfl, rfl, Below.refl _ _, hC⟩
          · rw [show u 0 = _ from hd]
            go_wp2_with fail
            refine (turned_any z _ ps _ _ (hp.keep (hBE.trans (hC.mono hzE)))).mono ?_
            rintro e w9 ⟨sT, rfl, hT, hb9⟩
            rw [(turn_yes hok).2] at hT
            rw [(turn_yes hok).1]
            go_wp2
            exact ⟨_, rfl, ⟨sT, rfl, hT.mono hC.size⟩, hb9, hC.trans (hb9.mono hC.size)⟩
          · go_wp2
            exact ⟨_, rfl, rfl, Below.refl _ _, hC⟩
          · go_wp2
            exact ⟨_, rfl, rfl, Below.refl _ _, hC⟩
          · obtain ⟨⟨s, h1, hs⟩, h2, h3⟩ : (∃ s, u 1 = .agg #[.int .i64 z, s] ∧ Pipes wx wr.heap.size s (ps.map turnP)) ∧ u 2 = .slice A3 mx c3 ∧ u 3 = .slice Ao j cap := hd
            rw [h1, h2, h3]
            go_wp2_with fail
            refine (feedsOk_any z _ _ _ (ps.map turnP) xs (negN nd) _ _ _ _ hs (hx.keep (hBE.trans (hC.mono hzE))) (hIo.keep hC)).mono ?_
            rintro e w9 ⟨rfl, hb9⟩
            rw [HT.out]
            go_wp2
            exact ⟨_, rfl, rfl, hb9, hC.trans (hb9.mono hC.size)⟩
          · go_wp2
            exact ⟨_, rfl, rfl, Below.refl _ _, hC⟩
          · rw [show u 4 = _ from hd.1, show u 5 = _ from hd.2]
            cases t
            all_goals
              go_wp2
              exact ⟨_, rfl, rfl, Below.refl _ _, hC⟩
          · rw [show u 6 = _ from hd]
            go_wp2
            exact ⟨_, rfl, rfl, Below.refl _ _, hC⟩
          · rw [show u 7 = _ from hd]
            go_wp2
            exact ⟨_, rfl, rfl, Below.refl _ _, hC⟩
          · rw [show u 7 = _ from hd]
            go_wp2
            exact ⟨_, rfl, rfl, Below.refl _ _, hC⟩
          · rw [show u 7 = _ from (by first | exact hd.1 | exact hd.2), show u 9 = _ from (by first | exact hd.2 | exact hd.1)]
            go_wp2
            exact ⟨_, rfl, rfl, Below.refl _ _, hC⟩
          · rw [show u 7 = _ from (by first | exact hd.1 | exact hd.2), show u 10 = _ from (by first | exact hd.2 | exact hd.1)]
            go_wp2
            exact ⟨_, rfl, rfl, Below.refl _ _, hC⟩
          · rw [show u 7 = _ from (by first | exact hd.1 | exact hd.2 | exact hd.2.2), show u 11 = _ from (by first | exact hd.2 | exact hd.1 | exact hd.2.1)]
            go_wp2
            refine ⟨_, rfl, ?_, (Below.refl _ _).alloc (Nat.le_refl _) _, hC.alloc hC.size _⟩
            show Ints _ _ _ (List.replicate M 0)
            exact (Row.ints (b := wx.heap.size) ⟨made_ints wx M 3 wx.heap.size (Nat.le_refl _) (by omega), by unfold small; omega⟩).mono hC.size
          · rw [show u 7 = _ from hd]
            go_wp2
            exact ⟨_, rfl, rfl, Below.refl _ _, hC⟩
          · have hall : u 7 = .bool true ∧ u 8 = .agg #[.int .i64 z, .slice A1 M c1] ∧ Ints wx wr.heap.size (u 12) (List.replicate M 0) ∧ u 13 = .slice A2 j c2 := by
              first | exact hd | exact ⟨hd.2.2.2, hd.1, hd.2.1, hd.2.2.1⟩ | exact ⟨hd.2.1, hd.1, hd.2.2.1, hd.2.2.2⟩
            obtain ⟨h7, h8, h12, h13⟩ := hall
            rw [h7, h8, h13]
            go_wp2_with fail
            refine (feedsOk_any z _ _ _ ps (List.replicate M 0) nd _ _ _ _ (hp.keep (hBE.trans (hC.mono hzE))) h12 (ho.keep (hBE.trans (hC.mono hzE)))).mono ?_
            rintro e w9 ⟨rfl, hb9⟩
            rw [HN.out]
            go_wp2
            exact ⟨_, rfl, rfl, hb9, hC.trans (hb9.mono hC.size)⟩
          · rw [show u 7 = _ from hd]
            go_wp2
            exact ⟨_, rfl, rfl, Below.refl _ _, hC⟩
          · have hall : u 7 = .bool true ∧ u 14 = .bool q ∧ u 15 = .bool q := by
              first | exact hd | exact ⟨hd.2.2, hd.1, hd.2.1⟩ | exact ⟨hd.2.1, hd.1, hd.2.2⟩
            rw [hall.1, hall.2.1, hall.2.2]
            cases q
            all_goals
              go_wp2
              exact ⟨_, rfl, rfl, Below.refl _ _, hC⟩
          · have hall : u 7 = .bool true ∧ u 16 = .bool true := by first | exact hd | exact ⟨hd.2, hd.1⟩
            rw [hall.1, hall.2]
            go_wp2
            exact ⟨_, rfl, rfl, Below.refl _ _, hC⟩
          · rw [show u 17 = _ from hd]
            go_wp2
            exact ⟨_, rfl, rfl, Below.refl _ _, hC⟩
        · intro u f wx hC hfin
          simp only [fillEnd, fillF, Act.put, List.setIfInBounds_toArray, List.set_cons_succ, List.set_cons_zero]
          rw [show u 18 = _ from hfin 18 (by decide) (by decide)]
          have hB9 : Below w1.heap.size w1 wx := hBE.trans (hC.mono hzE)
          clear hfin
          go_wp2
          (go_ret; exact ⟨rfl, hBw1.trans (Below.mono (by with_reducible assumption) hBw1.size)⟩)
  · have hn' : needsB z ps nd = false := by simpa using hn
    have htf : t = false := by rw [← ht, feedsB, hn']; simp
    subst htf
    rw [hn']
    clear hn ht
    go_wp2_with fail
    with_reducible refine (alive_any _).mono ?_
    rintro e w5 ⟨rfl, hnn⟩
    have bx5 := (bx4).keep hnn
    have hB5 : Below w1.heap.size w1 w5 := by (repeat (first | (with_reducible assumption) | (with_reducible exact Below.refl _ _) | ((with_reducible refine Below.alloc ?_ ?hsz _); (case hsz => (first | omega | (simp; done) | (simp; omega) | (simp at *; omega)))) | ((with_reducible refine Below.setCell ?_ ?hsz _); (case hsz => (first | omega | (simp; done) | (simp; omega) | (simp at *; omega)))) | (with_reducible refine Below.drew ?_) | (with_reducible refine below_drewN ?_ _) | ((with_reducible refine Below.trans ?_ (Below.mono (by with_reducible assumption) ?hsz)); (case hsz => (first | omega | (simp; done) | (simp; omega) | (simp at *; omega))))))
    clear hnn
    (try clear d0 d1 g0 g1)
    obtain ⟨bs, d0, d1, g0, g1⟩ := id bx5
    go_wp2
    (go_ret; exact ⟨rfl, hBw1.trans (Below.mono (by with_reducible assumption) hBw1.size)⟩)

set_option maxRecDepth 100000 in
theorem contract (H : Type) (enc : TypeId × Value → H) (W : World) (base : Nat) (args : Array Value) (ds gs : List (DataW H)) (before : List MemPlace)
    (hval : ∀ (j : Nat) t v, Try.f9.params[j]? = some t → args[j]? = some v → Value.okWide Try.prog W .any base t v)
    (hW : DataW.Whole enc Try.prog Try.f9.params.toList Rows.fnFeedsOkSpec.vars false W args.toList ds gs before) :
    Calls Try.prog 9 args W fun e W' => ∃ v, e = .returned v ∧ Rows.fnFeedsOkSpec.post enc Try.prog Try.f9 false true false false W args v W' := by
  have hW' := hW
  obtain ⟨p, q, hA0, hV, rfl, hfz, hnd⟩ := hW
  have hA : DataW.TrodAll enc Try.prog W 0 (fun _ => true) true Try.f9.params.toList args.toList ds p := hA0
  rw [Try.params9] at hA hval
  obtain ⟨u0, us0, d0, ds0, p0, q0, hargs, rfl, rfl, g0, k0⟩ := trodAll_cons hA
  obtain ⟨rfl, rfl, rfl⟩ := trodAll_nil k0
  obtain rfl : args = #[u0] := by cases args; simp_all
  obtain ⟨rfl, rfl⟩ := trodVars_none hV
  obtain ⟨m0, e0⟩ := g0
  obtain ⟨s0, l0, f0, hh0⟩ := open_arg_bytes e0
  have f0' := one_of_cells Try.underlying22 (hval 0 _ _ rfl rfl) f0
  subst f0'
  refine (walk _ l0 W hh0).mono fun e W' ⟨he, hb⟩ => ?_
  subst he
  exact ⟨_, rfl, law_post Try.kids Try.full (by rw [Try.params9]; decide) rfl rfl Try.underlying4 hW' rfl rfl rfl hb⟩

set_option maxRecDepth 100000 in
theorem lifted (os : Os) (started : os.Started) (H : Type) (enc : TypeId × Value → H) :
    ReturnsInHanded {} Try.checked os 9 .any (Rows.fnFeedsOkSpec.pre6 enc Try.prog Try.f9 Rows.fnFeedsOkRow.domain false) (Rows.fnFeedsOkSpec.post enc Try.prog Try.f9 false true false false) := by
  refine returnsInHanded_of_change (C := Try.checked) Try.own started (by kernel_rfl) Try.func9
    (ChangeSpec.witness6 (enc := enc) (C := Try.checked) false ⟨#[], #[.slice none 0 0], []⟩ 8 (by kernel_rfl) (by kernel_rfl) (by kernel_rfl) (by kernel_rfl)) ?_
  intro W base args ds gs before hval0 hW _ _
  exact contract H enc W base args ds gs before hval0 hW

theorem proved : Rows.FnFeedsOkSaid :=
  OpenClaim.holds_of_wide 9 Try.f9 rfl rfl rfl rfl rfl rfl rfl ⟨rfl, rfl, rfl, rfl, rfl⟩ rfl rfl rfl rfl rfl (by kernel_rfl) Try.func9 (by kernel_rfl)
    (of_decide_eq_true (by kernel_rfl)) (by unfold Func.isWrapper; first | (rw [if_pos (by decide +kernel)]; kernel_rfl) | (rw [if_neg (by decide +kernel)]; exact ⟨rfl, rfl⟩))
    (fun os started H enc _ => lifted os started H enc)

end Go.Proofs.Ytphbmlephldaaaa.lawFeedsOk
