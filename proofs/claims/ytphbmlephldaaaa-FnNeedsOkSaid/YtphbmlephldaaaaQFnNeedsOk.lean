/- FnNeedsOk: for every code the law holds: the program's NeedsOk answers as the model; needs of nothing are needs of a free net; with all signs exchanged it holds of the turned net exactly if it does. No condition. -/
import Derived.Test.YtphbmlephldaaaaG1
import Derived.Test.YtphbmlephldaaaaDF
import Derived.Test.YtphbmlephldaaaaY5
import Derived.Test.YtphbmlephldaaaaZA
import Derived.Test.YtphbmlephldaaaaZ4
import Derived.Test.YtphbmlephldaaaaC8
import Derived.Test.YtphbmlephldaaaaW5
import Derived.Test.YtphbmlephldaaaaGA
namespace Go.Proofs.Ytphbmlephldaaaa.lawNeedsOk
open Go.ChangeShapes Go.WideShapes Go.ChangeAt Go.RowKit Go.Deep Go.Joins

/-- what the operations of the law's end yield -/
def noV (B z0 N : Nat) (A1 : Option Addr) (L c1 : Nat) (so : Value) (ps : List Pp) (t : Bool) : Nat → Value → World → Prop
  | 0, x, _ => x = .agg #[.int .i64 N, .slice A1 L c1]
  | 1, x, _ => x = .pointer (some ⟨z0, 0, none⟩)
  | 2, x, _ => x = .int .i64 N
  | 3, x, wx => Ints wx B x (List.replicate N 0)
  | 4, x, _ => x = .bool true
  | 5, x, _ => x = .bool true
  | 6, x, _ => x = .agg #[.int .i64 N, .slice A1 L c1]
  | 7, x, wx => ∃ s, x = .agg #[.int .i64 N, s] ∧ Pipes wx B s (ps.map turnP)
  | 8, x, _ => x = so
  | 9, x, _ => x = .bool t
  | 10, x, _ => x = .bool t
  | 11, x, _ => x = .bool true
  | 12, x, _ => x = .bool true
  | 13, x, _ => x = .bool true
  | _, _, _ => True

set_option maxRecDepth 20000 in
set_option maxHeartbeats 4000000 in
set_option maxRecDepth 20000 in
theorem walk (v : Value) (n : Nat) (w : World) (h : ArgBytes w v n) :
    Calls Try.prog 8 #[v] w fun e w' => e = .returned (.bool true) ∧ Below w.heap.size w w' := by
  obtain ⟨A, c, rfl, hc1, hc2, -⟩ := id h
  unfold maxLen at hc2
  by_cases hbig : 1048576 < n
  · go_enter Try.func8, Try.ntmps8
    go_wp2
    go_ret
    exact ⟨rfl, by (repeat (first | (with_reducible assumption) | (with_reducible exact Below.refl _ _) | ((with_reducible refine Below.alloc ?_ ?hsz _); (case hsz => (first | omega | (simp; done) | (simp; omega) | (simp at *; omega)))) | ((with_reducible refine Below.setCell ?_ ?hsz _); (case hsz => (first | omega | (simp; done) | (simp; omega) | (simp at *; omega)))) | (with_reducible refine Below.drew ?_) | (with_reducible refine below_drewN ?_ _) | ((with_reducible refine Below.trans ?_ (Below.mono (by with_reducible assumption) ?hsz)); (case hsz => (first | omega | (simp; done) | (simp; omega) | (simp at *; omega))))))⟩
  go_enter Try.func8, Try.ntmps8
  go_wp2_with fail
  with_reducible refine (drawNeedsOk_any _ n _ (h.keep (by (repeat (first | (with_reducible assumption) | (with_reducible exact Below.refl _ _) | ((with_reducible refine Below.alloc ?_ ?hsz _); (case hsz => (first | omega | (simp; done) | (simp; omega) | (simp at *; omega)))) | ((with_reducible refine Below.setCell ?_ ?hsz _); (case hsz => (first | omega | (simp; done) | (simp; omega) | (simp at *; omega)))) | (with_reducible refine Below.drew ?_) | (with_reducible refine below_drewN ?_ _) | ((with_reducible refine Below.trans ?_ (Below.mono (by with_reducible assumption) ?hsz)); (case hsz => (first | omega | (simp; done) | (simp; omega) | (simp at *; omega))))))))).mono ?_
  rintro e w1 ⟨z, ps, u, o, nd, rfl, hp, ho, hb1, hl8, hz1, hz6, hn6, hnb⟩
  have hBw1 : Below w.heap.size w w1 := by (repeat (first | (with_reducible assumption) | (with_reducible exact Below.refl _ _) | ((with_reducible refine Below.alloc ?_ ?hsz _); (case hsz => (first | omega | (simp; done) | (simp; omega) | (simp at *; omega)))) | ((with_reducible refine Below.setCell ?_ ?hsz _); (case hsz => (first | omega | (simp; done) | (simp; omega) | (simp at *; omega)))) | (with_reducible refine Below.drew ?_) | (with_reducible refine below_drewN ?_ _) | ((with_reducible refine Below.trans ?_ (Below.mono (by with_reducible assumption) ?hsz)); (case hsz => (first | omega | (simp; done) | (simp; omega) | (simp at *; omega))))))
  clear h hc1 hc2 hbig
  obtain ⟨A1, c1, rfl, hk1, hk2, hsm, -⟩ := hp.form
  unfold maxLen at hk2
  have bx1 : Box2 (w1.alloc (.cells #[.int .i64 z, .slice A1 ps.length c1] 25)) w1.heap.size (.int .i64 z) (.slice A1 ps.length c1) := Box2.new _ _ _ _
  have hB1 : Below w1.heap.size w1 (w1.alloc (.cells #[.int .i64 z, .slice A1 ps.length c1] 25)) := by (repeat (first | (with_reducible assumption) | (with_reducible exact Below.refl _ _) | ((with_reducible refine Below.alloc ?_ ?hsz _); (case hsz => (first | omega | (simp; done) | (simp; omega) | (simp at *; omega)))) | ((with_reducible refine Below.setCell ?_ ?hsz _); (case hsz => (first | omega | (simp; done) | (simp; omega) | (simp at *; omega)))) | (with_reducible refine Below.drew ?_) | (with_reducible refine below_drewN ?_ _) | ((with_reducible refine Below.trans ?_ (Below.mono (by with_reducible assumption) ?hsz)); (case hsz => (first | omega | (simp; done) | (simp; omega) | (simp at *; omega))))))
  obtain ⟨A2, c2, rfl, hk3, hk4, -, -⟩ := ho.form
  unfold maxLen at hk4
  obtain ⟨mo, hmo⟩ : ∃ m, nd.length = m := ⟨_, rfl⟩
  rw [hmo] at ho hk3 hn6 ⊢
  have Hmo := Lib.hid hmo
  have Hnb := Lib.hid hnb
  clear hmo hnb
  obtain ⟨bs, d0, d1, g0, g1⟩ := id bx1
  go_wp2_with fail
  with_reducible refine (needsOk_any z _ _ ps nd _ _ _ (hp.keep hB1) (ho.keep hB1)).mono ?_
  rintro e w2 ⟨rfl, hnn⟩
  have bx2 := (bx1).keep hnn
  have hB2 : Below w1.heap.size w1 w2 := by (repeat (first | (with_reducible assumption) | (with_reducible exact Below.refl _ _) | ((with_reducible refine Below.alloc ?_ ?hsz _); (case hsz => (first | omega | (simp; done) | (simp; omega) | (simp at *; omega)))) | ((with_reducible refine Below.setCell ?_ ?hsz _); (case hsz => (first | omega | (simp; done) | (simp; omega) | (simp at *; omega)))) | (with_reducible refine Below.drew ?_) | (with_reducible refine below_drewN ?_ _) | ((with_reducible refine Below.trans ?_ (Below.mono (by with_reducible assumption) ?hsz)); (case hsz => (first | omega | (simp; done) | (simp; omega) | (simp at *; omega))))))
  clear hnn
  (try clear d0 d1 g0 g1)
  obtain ⟨bs, d0, d1, g0, g1⟩ := id bx2
  go_wp2_with fail
  with_reducible refine (specNeedsOk_any z _ _ ps nd _ _ _ (hp.keep hB2) (ho.keep hB2)).mono ?_
  rintro e w3 ⟨rfl, hnn⟩
  have bx3 := (bx2).keep hnn
  have hB3 : Below w1.heap.size w1 w3 := by (repeat (first | (with_reducible assumption) | (with_reducible exact Below.refl _ _) | ((with_reducible refine Below.alloc ?_ ?hsz _); (case hsz => (first | omega | (simp; done) | (simp; omega) | (simp at *; omega)))) | ((with_reducible refine Below.setCell ?_ ?hsz _); (case hsz => (first | omega | (simp; done) | (simp; omega) | (simp at *; omega)))) | (with_reducible refine Below.drew ?_) | (with_reducible refine below_drewN ?_ _) | ((with_reducible refine Below.trans ?_ (Below.mono (by with_reducible assumption) ?hsz)); (case hsz => (first | omega | (simp; done) | (simp; omega) | (simp at *; omega))))))
  clear hnn
  (try clear d0 d1 g0 g1)
  obtain ⟨bs, d0, d1, g0, g1⟩ := id bx3
  obtain ⟨t, ht⟩ : ∃ t, needsB z ps nd = t := ⟨_, rfl⟩
  rw [ht]
  go_wp2_with fail
  with_reducible refine (specFreeOk_any z _ ps _ _ (hp.keep hB3)).mono ?_
  rintro e w4 ⟨rfl, hnn⟩
  have bx4 := (bx3).keep hnn
  have hB4 : Below w1.heap.size w1 w4 := by (repeat (first | (with_reducible assumption) | (with_reducible exact Below.refl _ _) | ((with_reducible refine Below.alloc ?_ ?hsz _); (case hsz => (first | omega | (simp; done) | (simp; omega) | (simp at *; omega)))) | ((with_reducible refine Below.setCell ?_ ?hsz _); (case hsz => (first | omega | (simp; done) | (simp; omega) | (simp at *; omega)))) | (with_reducible refine Below.drew ?_) | (with_reducible refine below_drewN ?_ _) | ((with_reducible refine Below.trans ?_ (Below.mono (by with_reducible assumption) ?hsz)); (case hsz => (first | omega | (simp; done) | (simp; omega) | (simp at *; omega))))))
  clear hnn
  (try clear d0 d1 g0 g1)
  obtain ⟨bs, d0, d1, g0, g1⟩ := id bx4
  by_cases hf : freeB z ps = true
  · have hok := free_net hf
    have hnb := netOk_parts hok
    obtain ⟨N, rfl⟩ := Int.eq_ofNat_of_zero_le (show 0 ≤ z by omega)
    have hno := needs_no hf
    rw [Int.toNat_natCast] at hno
    have HN := Lib.hid hno
    have HT := Lib.hid (show needsB N (ps.map turnP) (negN nd) = t by rw [needs_turn, ht])
    have hN6 : N ≤ 6 := by omega
    rw [hf]
    clear hf hnb hno ht
    have hmk := fun W => run_make_ints (n := N) (by omega) W
    have HE := Lib.hid (ints_empty5 w4 (b := w4.heap.size) (g := w4.heap.size) (Nat.le_refl _) rfl)
    have hbE : Below w4.heap.size w4 (w4.alloc (.cells #[] 3)) := by (repeat (first | (with_reducible assumption) | (with_reducible exact Below.refl _ _) | ((with_reducible refine Below.alloc ?_ ?hsz _); (case hsz => (first | omega | (simp; done) | (simp; omega) | (simp at *; omega)))) | ((with_reducible refine Below.setCell ?_ ?hsz _); (case hsz => (first | omega | (simp; done) | (simp; omega) | (simp at *; omega)))) | (with_reducible refine Below.drew ?_) | (with_reducible refine below_drewN ?_ _) | ((with_reducible refine Below.trans ?_ (Below.mono (by with_reducible assumption) ?hsz)); (case hsz => (first | omega | (simp; done) | (simp; omega) | (simp at *; omega))))))
    have hzw4 := hB4.size
    obtain ⟨i0, hi0, hz0, hz1', hz2'⟩ := info_parts int_info
    go_wp2_with fail
    go_loopw [7, 6] (fun i t wr => ∃ (j cap : Nat) (Ao : Option Addr), j ≤ mo ∧ i = .int .i64 j ∧ t = .slice Ao j cap ∧ Ints wr w4.heap.size (.slice Ao j cap) (negN (nd.take j)) ∧ Below w4.heap.size w4 wr) (fun i _ _ => mo - (intOf i).toNat)
    case atStart => exact ⟨0, 0, some ⟨w4.heap.size, 0, none⟩, by omega, rfl, rfl, by simpa [negN] using HE.out, hbE⟩
    case round =>
      clear bs d0 d1 g0 g1 hbE
      obtain ⟨j, cap, Ao, hj, rfl, rfl, hI, hb⟩ := hrel
      have hzb := hb.size
      have hlk : (negN (nd.take j)).length = j := by rw [negN_len, List.length_take, Hmo.out]; omega
      by_cases hjl : j < mo
      · obtain ⟨g, rfl, hg1, hg2, cN, -⟩ := (ho.keep (hB4.trans (hb.mono hzw4))).at' j (by rw [Hmo.out]; exact hjl)
        have hsn : Hid (negN (nd.take (j + 1)) = negN (nd.take j) ++ [-(nd[j]'(by rw [Hmo.out]; exact hjl))]) := Lib.hid (by rw [List.take_succ_eq_append_getElem (by rw [Hmo.out]; exact hjl), negN, List.map_append]; rfl)
        obtain ⟨x1, x2⟩ := Hnb.out _ (List.getElem_mem (show j < nd.length by rw [Hmo.out]; exact hjl))
        generalize nd[j]'(by rw [Hmo.out]; exact hjl) = x at *
        have hI2 := hI.keep ((Below.refl wr.heap.size wr).alloc (Nat.le_refl _) (.cells #[.int .i64 (-x)] 3))
        have hown2 : (wr.alloc (.cells #[.int .i64 (-x)] 3)).ownsRow w4.heap.size 3 1 (.slice Ao j cap) j ((negN (nd.take j)).map (Value.int .i64)) := by
          have := hI2.1
          rw [hlk] at this
          exact this
        have hb2 : Below w4.heap.size w4 (wr.alloc (.cells #[.int .i64 (-x)] 3)) := by (repeat (first | (with_reducible assumption) | (with_reducible exact Below.refl _ _) | ((with_reducible refine Below.alloc ?_ ?hsz _); (case hsz => (first | omega | (simp; done) | (simp; omega) | (simp at *; omega)))) | ((with_reducible refine Below.setCell ?_ ?hsz _); (case hsz => (first | omega | (simp; done) | (simp; omega) | (simp at *; omega)))) | (with_reducible refine Below.drew ?_) | (with_reducible refine below_drewN ?_ _) | ((with_reducible refine Below.trans ?_ (Below.mono (by with_reducible assumption) ?hsz)); (case hsz => (first | omega | (simp; done) | (simp; omega) | (simp at *; omega))))))
        go_wp2_with (first
          | (at_builtin
             go_must (refine wpList_append_src rfl _ _ 40 rfl w4.heap.size 3 i0 _ 1 8 Try.underlying40 hi0 hz0 hz1' hz2' rfl (by omega) _ _ j 1 _ _ (by rfl) rfl hown2 (lit_src (heap_alloc_new _ _) rfl (by simp [Value.oneCell'])) (by unfold maxLen; omega) (by omega) (by simp; omega) ?_)
             intro r7 w7 hown7 hgr7 hat7))
        have hr7 : Ints w7 w4.heap.size r7 (negN (nd.take j) ++ [-x]) := ints_snoc (xs := negN (nd.take j)) (by rw [hlk]; exact hown7) (by rw [hlk]; unfold small; omega)
        have hb7 : Below w4.heap.size w4 w7 := Below.grown hb2 hgr7 hb2.size (fun q hq => (hown2.lt q hq).1)
        obtain ⟨A7, c7, hv, -⟩ := hr7.form
        have hl7' : (negN (nd.take j) ++ [-x]).length = j + 1 := by rw [List.length_append, hlk]; rfl
        rw [hl7'] at hv
        refine ⟨⟨j + 1, c7, A7, by omega, by go_num, hv, by rw [hsn.out, ← hv]; exact hr7, hb7⟩, by simp [intOf]; omega⟩
      · have hjm : j = mo := by omega
        subst hjm
        have hIo : Ints wr w4.heap.size (.slice Ao j cap) (negN nd) := by
          have := hI
          rwa [List.take_of_length_le (by rw [Hmo.out]; omega)] at this
        have bxE := bx4.keep hb
        have hBE := hB4.trans (hb.mono hzw4)
        have hzE := hBE.size
        clear hI hlk HE
        obtain ⟨bs, d0, d1, g0, g1⟩ := id bxE
        clear hb
        go_wp2_with fail
        refine wp_region_flow 14 none [(0, 47), (1, 48), (2, 49), (3, 50), (4, 51), (5, 52), (6, 53), (7, 54), (8, 55), (9, 56), (10, 57), (11, 58), (12, 59), (13, 2)] (fun i x _ wx => noV wr.heap.size w1.heap.size N A1 ps.length c1 (.slice Ao j cap) ps t i x wx) (fun _ wx wy => Below wx.heap.size wx wy) (fun _ wx => Below wr.heap.size wr wx) (by kernel_rfl) (by kernel_rfl) rfl ⟨rfl, rfl, rfl, Nat.le_refl _, fun _ _ => rfl⟩ ?_ ?_ ?_ ?_
        · intro i k hi hk hal x u wx wy hR hV
          have hk' : k < 14 := hk
          have hb : Below wx.heap.size wx wy := hR
          rcases k with _ | _ | _ | _ | _ | _ | _ | _ | _ | _ | _ | _ | _ | _ | k
          all_goals first | exact hV | (exfalso; omega) | skip
          · exact Ints.keep hV hb
          · obtain ⟨s, h1, h2⟩ := hV; exact ⟨s, h1, h2.keep hb⟩
        · exact fun _ _ _ _ _ _ _ h => h
        · simp (maxSteps := 4000000) only [eachOp, fillF, List.setIfInBounds_toArray, List.set_cons_succ, List.set_cons_zero]
          refine ⟨?_, ?_, ?_, ?_, ?_, ?_, ?_, ?_, ?_, ?_, ?_, ?_, ?_, ?_, trivial⟩ <;> intro u f wx hC hd <;> (try simp [allV, useOf, Region.binds] at hd) <;> have e0 := (bel_cell hC bs).trans d0 <;> have e1 := (bel_cell hC bs).trans d1
          · go_wp2
            exact ⟨_, rfl, rfl, Below.refl _ _, hC⟩
          · go_wp2
            exact ⟨_, rfl, rfl, Below.refl _ _, hC⟩
          · rw [show u 1 = _ from hd]
            go_wp2
            exact ⟨_, rfl, rfl, Below.refl _ _, hC⟩
          · rw [show u 2 = _ from hd]
            go_wp2
            refine ⟨_, rfl, ?_, (Below.refl _ _).alloc (Nat.le_refl _) _, hC.alloc hC.size _⟩
            show Ints _ _ _ (List.replicate N 0)
            exact (Row.ints (b := wx.heap.size) ⟨made_ints wx N 3 wx.heap.size (Nat.le_refl _) (by omega), by unfold small; omega⟩).mono hC.size
          · obtain ⟨h0, h3⟩ : u 0 = .agg #[.int .i64 N, .slice A1 ps.length c1] ∧ Ints wx wr.heap.size (u 3) (List.replicate N 0) := hd
            rw [h0]
            go_wp2_with fail
            refine (needsOk_any N _ _ ps (List.replicate N 0) _ _ _ (hp.keep (hBE.trans (hC.mono hzE))) h3).mono ?_
            rintro e w9 ⟨rfl, hb9⟩
            rw [HN.out]
            go_wp2
            exact ⟨_, rfl, rfl, hb9, hC.trans (hb9.mono hC.size)⟩
          · rw [show u 4 = _ from hd]
            go_wp2
            exact ⟨_, rfl, rfl, Below.refl _ _, hC⟩
          · rw [show u 5 = _ from hd]
            go_wp2
            exact ⟨_, rfl, rfl, Below.refl _ _, hC⟩
          · obtain ⟨h5, h6⟩ : u 5 = .bool true ∧ u 6 = .agg #[.int .i64 N, .slice A1 ps.length c1] := by first | exact hd | exact ⟨hd.2, hd.1⟩
            rw [h5, h6]
            go_wp2_with fail
            refine (turned_any N _ ps _ _ (hp.keep (hBE.trans (hC.mono hzE)))).mono ?_
            rintro e w9 ⟨sT, rfl, hT, hb9⟩
            rw [(turn_yes hok).2] at hT
            rw [(turn_yes hok).1]
            go_wp2
            exact ⟨_, rfl, ⟨sT, rfl, hT.mono hC.size⟩, hb9, hC.trans (hb9.mono hC.size)⟩
          · rw [show u 5 = _ from hd]
            go_wp2
            exact ⟨_, rfl, rfl, Below.refl _ _, hC⟩
          · obtain ⟨h5, ⟨s, h7, hs⟩, h8⟩ : u 5 = .bool true ∧ (∃ s, u 7 = .agg #[.int .i64 N, s] ∧ Pipes wx wr.heap.size s (ps.map turnP)) ∧ u 8 = .slice Ao j cap := by first | exact hd | exact ⟨hd.2.2, hd.1, hd.2.1⟩ | exact ⟨hd.2.1, hd.1, hd.2.2⟩
            rw [h5, h7, h8]
            go_wp2_with fail
            refine (needsOk_any N _ _ (ps.map turnP) (negN nd) _ _ _ hs (hIo.keep hC)).mono ?_
            rintro e w9 ⟨rfl, hb9⟩
            rw [HT.out]
            go_wp2
            exact ⟨_, rfl, rfl, hb9, hC.trans (hb9.mono hC.size)⟩
          · rw [show u 5 = _ from hd]
            go_wp2
            exact ⟨_, rfl, rfl, Below.refl _ _, hC⟩
          · obtain ⟨h5, h9, h10⟩ : u 5 = .bool true ∧ u 9 = .bool t ∧ u 10 = .bool t := by first | exact hd | exact ⟨hd.2.2, hd.1, hd.2.1⟩ | exact ⟨hd.2.1, hd.1, hd.2.2⟩
            rw [h5, h9, h10]
            cases t
            all_goals
              go_wp2
              exact ⟨_, rfl, rfl, Below.refl _ _, hC⟩
          · obtain ⟨h5, h11⟩ : u 5 = .bool true ∧ u 11 = .bool true := by first | exact hd | exact ⟨hd.2, hd.1⟩
            rw [h5, h11]
            go_wp2
            exact ⟨_, rfl, rfl, Below.refl _ _, hC⟩
          · rw [show u 12 = _ from hd]
            go_wp2
            exact ⟨_, rfl, rfl, Below.refl _ _, hC⟩
        · intro u f wx hC hfin
          simp only [fillEnd, fillF, Act.put, List.setIfInBounds_toArray, List.set_cons_succ, List.set_cons_zero]
          rw [show u 13 = _ from hfin 13 (by decide) (by decide)]
          have hB9 : Below w1.heap.size w1 wx := hBE.trans (hC.mono hzE)
          clear hfin
          go_wp2
          (go_ret; exact ⟨rfl, hBw1.trans (Below.mono (by with_reducible assumption) hBw1.size)⟩)
  · have hf' : freeB z ps = false := by simpa using hf
    have htf : t = false := by rw [← ht]; exact needsB_free hf'
    subst htf
    rw [hf']
    clear hf ht
    go_wp2_with fail
    with_reducible refine (alive_any _).mono ?_
    rintro e w5 ⟨rfl, hnn⟩
    have bx5 := (bx4).keep hnn
    have hB5 : Below w1.heap.size w1 w5 := by (repeat (first | (with_reducible assumption) | (with_reducible exact Below.refl _ _) | ((with_reducible refine Below.alloc ?_ ?hsz _); (case hsz => (first | omega | (simp; done) | (simp; omega) | (simp at *; omega)))) | ((with_reducible refine Below.setCell ?_ ?hsz _); (case hsz => (first | omega | (simp; done) | (simp; omega) | (simp at *; omega)))) | (with_reducible refine Below.drew ?_) | (with_reducible refine below_drewN ?_ _) | ((with_reducible refine Below.trans ?_ (Below.mono (by with_reducible assumption) ?hsz)); (case hsz => (first | omega | (simp; done) | (simp; omega) | (simp at *; omega))))))
    clear hnn
    (try clear d0 d1 g0 g1)
    obtain ⟨bs, d0, d1, g0, g1⟩ := id bx5
    go_wp2
    (go_ret; exact ⟨rfl, hBw1.trans (Below.mono (by with_reducible assumption) hBw1.size)⟩)

set_option maxRecDepth 100000 in
theorem contract (H : Type) (enc : TypeId × Value → H) (W : World) (base : Nat) (args : Array Value) (ds gs : List (DataW H)) (before : List MemPlace)
    (hval : ∀ (j : Nat) t v, Try.f8.params[j]? = some t → args[j]? = some v → Value.okWide Try.prog W .any base t v)
    (hW : DataW.Whole enc Try.prog Try.f8.params.toList Rows.fnNeedsOkSpec.vars false W args.toList ds gs before) :
    Calls Try.prog 8 args W fun e W' => ∃ v, e = .returned v ∧ Rows.fnNeedsOkSpec.post enc Try.prog Try.f8 false true false false W args v W' := by
  have hW' := hW
  obtain ⟨p, q, hA0, hV, rfl, hfz, hnd⟩ := hW
  have hA : DataW.TrodAll enc Try.prog W 0 (fun _ => true) true Try.f8.params.toList args.toList ds p := hA0
  rw [Try.params8] at hA hval
  obtain ⟨u0, us0, d0, ds0, p0, q0, hargs, rfl, rfl, g0, k0⟩ := trodAll_cons hA
  obtain ⟨rfl, rfl, rfl⟩ := trodAll_nil k0
  obtain rfl : args = #[u0] := by cases args; simp_all
  obtain ⟨rfl, rfl⟩ := trodVars_none hV
  obtain ⟨m0, e0⟩ := g0
  obtain ⟨s0, l0, f0, hh0⟩ := open_arg_bytes e0
  have f0' := one_of_cells Try.underlying22 (hval 0 _ _ rfl rfl) f0
  subst f0'
  refine (walk _ l0 W hh0).mono fun e W' ⟨he, hb⟩ => ?_
  subst he
  exact ⟨_, rfl, law_post Try.kids Try.full (by rw [Try.params8]; decide) rfl rfl Try.underlying4 hW' rfl rfl rfl hb⟩

set_option maxRecDepth 100000 in
theorem lifted (os : Os) (started : os.Started) (H : Type) (enc : TypeId × Value → H) :
    ReturnsInHanded {} Try.checked os 8 .any (Rows.fnNeedsOkSpec.pre6 enc Try.prog Try.f8 Rows.fnNeedsOkRow.domain false) (Rows.fnNeedsOkSpec.post enc Try.prog Try.f8 false true false false) := by
  refine returnsInHanded_of_change (C := Try.checked) Try.own started (by kernel_rfl) Try.func8
    (ChangeSpec.witness6 (enc := enc) (C := Try.checked) false ⟨#[], #[.slice none 0 0], []⟩ 8 (by kernel_rfl) (by kernel_rfl) (by kernel_rfl) (by kernel_rfl)) ?_
  intro W base args ds gs before hval0 hW _ _
  exact contract H enc W base args ds gs before hval0 hW

theorem proved : Rows.FnNeedsOkSaid :=
  OpenClaim.holds_of_wide 8 Try.f8 rfl rfl rfl rfl rfl rfl rfl ⟨rfl, rfl, rfl, rfl, rfl⟩ rfl rfl rfl rfl rfl (by kernel_rfl) Try.func8 (by kernel_rfl)
    (of_decide_eq_true (by kernel_rfl)) (by unfold Func.isWrapper; first | (rw [if_pos (by decide +kernel)]; kernel_rfl) | (rw [if_neg (by decide +kernel)]; exact ⟨rfl, rfl⟩))
    (fun os started H enc _ => lifted os started H enc)

end Go.Proofs.Ytphbmlephldaaaa.lawNeedsOk
