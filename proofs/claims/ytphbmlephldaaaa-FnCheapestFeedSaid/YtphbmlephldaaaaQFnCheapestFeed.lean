/- FnCheapestFeed: for every code the law holds: the program's CheapestFeed answers as the model; it is told exactly if there is a feeding flow, and at most the cost of that; with all signs of needs exchanged it is the same for the turned net. No condition. -/
import Derived.Test.YtphbmlephldaaaaGN10
import Derived.Test.YtphbmlephldaaaaGN24
import Derived.Test.YtphbmlephldaaaaY6
import Derived.Test.YtphbmlephldaaaaGN11
import Derived.Test.YtphbmlephldaaaaGN12
import Derived.Test.YtphbmlephldaaaaW5
import Derived.Test.YtphbmlephldaaaaGN16
namespace Go.Proofs.Ytphbmlephldaaaa.lawCheapestFeed
open Go.ChangeShapes Go.WideShapes Go.ChangeAt Go.RowKit Go.Deep Go.Joins

theorem cf_bd {n : Int} {ps : List Pp} {nd : List Int} (h : feedB n ps nd = true) : costR n ps (feedL n ps nd) = (costS ps (feedL n ps nd), true) := by
  rw [costR, if_pos (holds_parts (feed_ok h).2.1).1]

set_option maxRecDepth 20000 in
set_option maxHeartbeats 4000000 in
set_option maxRecDepth 20000 in
theorem walk (v : Value) (n : Nat) (w : World) (h : ArgBytes w v n) :
    Calls Try.prog 10 #[v] w fun e w' => e = .returned (.bool true) ∧ Below w.heap.size w w' := by
  obtain ⟨A, c, rfl, hc1, hc2, -⟩ := id h
  unfold maxLen at hc2
  by_cases hbig : 1048576 < n
  · go_enter Try.func10, Try.ntmps10
    go_wp2
    go_ret
    exact ⟨rfl, by (repeat (first | (with_reducible assumption) | (with_reducible exact Below.refl _ _) | ((with_reducible refine Below.alloc ?_ ?hsz _); (case hsz => (first | omega | (simp; done) | (simp; omega) | (simp at *; omega)))) | ((with_reducible refine Below.setCell ?_ ?hsz _); (case hsz => (first | omega | (simp; done) | (simp; omega) | (simp at *; omega)))) | (with_reducible refine Below.drew ?_) | (with_reducible refine below_drewN ?_ _) | ((with_reducible refine Below.trans ?_ (Below.mono (by with_reducible assumption) ?hsz)); (case hsz => (first | omega | (simp; done) | (simp; omega) | (simp at *; omega))))))⟩
  go_enter Try.func10, Try.ntmps10
  go_wp2_with fail
  with_reducible refine (drawCheapestFeed_any _ n _ (h.keep (by (repeat (first | (with_reducible assumption) | (with_reducible exact Below.refl _ _) | ((with_reducible refine Below.alloc ?_ ?hsz _); (case hsz => (first | omega | (simp; done) | (simp; omega) | (simp at *; omega)))) | ((with_reducible refine Below.setCell ?_ ?hsz _); (case hsz => (first | omega | (simp; done) | (simp; omega) | (simp at *; omega)))) | (with_reducible refine Below.drew ?_) | (with_reducible refine below_drewN ?_ _) | ((with_reducible refine Below.trans ?_ (Below.mono (by with_reducible assumption) ?hsz)); (case hsz => (first | omega | (simp; done) | (simp; omega) | (simp at *; omega))))))))).mono ?_
  rintro e w1 ⟨z, ps, u, o, nd, rfl, hp, ho, hb1, hl8, hz1, hz6, hn6, hnb⟩
  have hBw1 : Below w.heap.size w w1 := by (repeat (first | (with_reducible assumption) | (with_reducible exact Below.refl _ _) | ((with_reducible refine Below.alloc ?_ ?hsz _); (case hsz => (first | omega | (simp; done) | (simp; omega) | (simp at *; omega)))) | ((with_reducible refine Below.setCell ?_ ?hsz _); (case hsz => (first | omega | (simp; done) | (simp; omega) | (simp at *; omega)))) | (with_reducible refine Below.drew ?_) | (with_reducible refine below_drewN ?_ _) | ((with_reducible refine Below.trans ?_ (Below.mono (by with_reducible assumption) ?hsz)); (case hsz => (first | omega | (simp; done) | (simp; omega) | (simp at *; omega))))))
  clear h hc1 hc2 hbig
  obtain ⟨A1, c1, rfl, hk1, hk2, hsm, -⟩ := hp.form
  unfold maxLen at hk2
  have bx1 : Box2 (w1.alloc (.cells #[.int .i64 z, .slice A1 ps.length c1] 25)) w1.heap.size (.int .i64 z) (.slice A1 ps.length c1) := Box2.new _ _ _ _
  have hB1 : Below w1.heap.size w1 (w1.alloc (.cells #[.int .i64 z, .slice A1 ps.length c1] 25)) := by (repeat (first | (with_reducible assumption) | (with_reducible exact Below.refl _ _) | ((with_reducible refine Below.alloc ?_ ?hsz _); (case hsz => (first | omega | (simp; done) | (simp; omega) | (simp at *; omega)))) | ((with_reducible refine Below.setCell ?_ ?hsz _); (case hsz => (first | omega | (simp; done) | (simp; omega) | (simp at *; omega)))) | (with_reducible refine Below.drew ?_) | (with_reducible refine below_drewN ?_ _) | ((with_reducible refine Below.trans ?_ (Below.mono (by with_reducible assumption) ?hsz)); (case hsz => (first | omega | (simp; done) | (simp; omega) | (simp at *; omega))))))
  obtain ⟨A2, c2, rfl, hk3, hk4, -, -⟩ := ho.form
  unfold maxLen at hk4
  obtain ⟨mo, hmo⟩ : ∃ m, nd.length = m := ⟨_, rfl⟩
  rw [hmo] at ho hk3 hn6 ⊢
  have Hmo := Lib.hid hmo
  have Hnb := Lib.hid hnb
  clear hmo hnb
  obtain ⟨bs, d0, d1, g0, g1⟩ := id bx1
  go_wp2_with fail
  with_reducible refine (cheapestFeed_any z _ _ ps nd _ _ _ (hp.keep hB1) (ho.keep hB1)).mono ?_
  rintro e w2 ⟨rfl, hnn⟩
  have bx2 := (bx1).keep hnn
  have hB2 : Below w1.heap.size w1 w2 := by (repeat (first | (with_reducible assumption) | (with_reducible exact Below.refl _ _) | ((with_reducible refine Below.alloc ?_ ?hsz _); (case hsz => (first | omega | (simp; done) | (simp; omega) | (simp at *; omega)))) | ((with_reducible refine Below.setCell ?_ ?hsz _); (case hsz => (first | omega | (simp; done) | (simp; omega) | (simp at *; omega)))) | (with_reducible refine Below.drew ?_) | (with_reducible refine below_drewN ?_ _) | ((with_reducible refine Below.trans ?_ (Below.mono (by with_reducible assumption) ?hsz)); (case hsz => (first | omega | (simp; done) | (simp; omega) | (simp at *; omega))))))
  clear hnn
  (try clear d0 d1 g0 g1)
  obtain ⟨bs, d0, d1, g0, g1⟩ := id bx2
  go_wp2_with fail
  with_reducible refine (specCheapestFeed_any z _ _ ps nd _ _ _ (hp.keep hB2) (ho.keep hB2)).mono ?_
  rintro e w3 ⟨rfl, hnn⟩
  have bx3 := (bx2).keep hnn
  have hB3 : Below w1.heap.size w1 w3 := by (repeat (first | (with_reducible assumption) | (with_reducible exact Below.refl _ _) | ((with_reducible refine Below.alloc ?_ ?hsz _); (case hsz => (first | omega | (simp; done) | (simp; omega) | (simp at *; omega)))) | ((with_reducible refine Below.setCell ?_ ?hsz _); (case hsz => (first | omega | (simp; done) | (simp; omega) | (simp at *; omega)))) | (with_reducible refine Below.drew ?_) | (with_reducible refine below_drewN ?_ _) | ((with_reducible refine Below.trans ?_ (Below.mono (by with_reducible assumption) ?hsz)); (case hsz => (first | omega | (simp; done) | (simp; omega) | (simp at *; omega))))))
  clear hnn
  (try clear d0 d1 g0 g1)
  obtain ⟨bs, d0, d1, g0, g1⟩ := id bx3
  by_cases hc : feedB z ps nd = true
  · obtain ⟨G, hG⟩ : ∃ G, (cfeedR z ps nd).1 = G := ⟨_, rfl⟩
    have hG2 : (cfeedR z ps nd).2 = true := by rw [cfeed_yes hc]
    have hn := (feed_ok hc).1
    have hok := free_net (needs_parts hn).1
    have HT := Lib.hid (show cfeedR z (ps.map turnP) (negN nd) = (G, true) by rw [cfeed_turn hn, ← hG, ← hG2])
    have HC := Lib.hid (cf_bd hc)
    have HL := Lib.hid (show decide (G ≤ costS ps (feedL z ps nd)) = true from decide_eq_true (by rw [← hG]; exact cfeed_cost_le hc))
    rw [hG, hG2]
    clear hG hG2 hn
    go_wp2_with fail
    with_reducible refine (feedingOf_any z _ _ ps nd _ _ _ (hp.keep hB3) (ho.keep hB3)).mono ?_
    rintro e w4 ⟨s4, rfl, hs4, hnn⟩
    rw [hc]
    have bx4 := bx3.keep hnn
    have hB4 : Below w1.heap.size w1 w4 := by (repeat (first | (with_reducible assumption) | (with_reducible exact Below.refl _ _) | ((with_reducible refine Below.alloc ?_ ?hsz _); (case hsz => (first | omega | (simp; done) | (simp; omega) | (simp at *; omega)))) | ((with_reducible refine Below.setCell ?_ ?hsz _); (case hsz => (first | omega | (simp; done) | (simp; omega) | (simp at *; omega)))) | (with_reducible refine Below.drew ?_) | (with_reducible refine below_drewN ?_ _) | ((with_reducible refine Below.trans ?_ (Below.mono (by with_reducible assumption) ?hsz)); (case hsz => (first | omega | (simp; done) | (simp; omega) | (simp at *; omega))))))
    clear hnn d0 d1 g0 g1 bs hc
    obtain ⟨bs, d0, d1, g0, g1⟩ := id bx4
    obtain ⟨As, cs, rfl, -, -, -, -⟩ := hs4.form
    obtain ⟨Lc, hLc⟩ : ∃ L, (feedL z ps nd).length = L := ⟨_, rfl⟩
    rw [hLc] at hs4 ⊢
    clear hLc
    have HE := Lib.hid (ints_empty5 w4 (b := w4.heap.size) (g := w4.heap.size) (Nat.le_refl _) rfl)
    have hbE : Below w4.heap.size w4 (w4.alloc (.cells #[] 3)) := by (repeat (first | (with_reducible assumption) | (with_reducible exact Below.refl _ _) | ((with_reducible refine Below.alloc ?_ ?hsz _); (case hsz => (first | omega | (simp; done) | (simp; omega) | (simp at *; omega)))) | ((with_reducible refine Below.setCell ?_ ?hsz _); (case hsz => (first | omega | (simp; done) | (simp; omega) | (simp at *; omega)))) | (with_reducible refine Below.drew ?_) | (with_reducible refine below_drewN ?_ _) | ((with_reducible refine Below.trans ?_ (Below.mono (by with_reducible assumption) ?hsz)); (case hsz => (first | omega | (simp; done) | (simp; omega) | (simp at *; omega))))))
    have hzw4 := hB4.size
    obtain ⟨i0, hi0, hz0, hz1', hz2'⟩ := info_parts int_info
    go_wp2_with fail
    go_loopw [12, 11] (fun i t wr => ∃ (j cap : Nat) (Ao : Option Addr), j ≤ mo ∧ i = .int .i64 j ∧ t = .slice Ao j cap ∧ Ints wr w4.heap.size (.slice Ao j cap) (negN (nd.take j)) ∧ Below w4.heap.size w4 wr) (fun i _ _ => mo - (intOf i).toNat)
    case atStart => exact ⟨0, 0, some ⟨w4.heap.size, 0, none⟩, by omega, rfl, rfl, by simpa [negN] using HE.out, hbE⟩
    case round =>
      clear bs d0 d1 g0 g1 hbE
      obtain ⟨j, cap, Ao, hj, rfl, rfl, hI, hb⟩ := hrel
      have hzb := hb.size
      have hlk : (negN (nd.take j)).length = j := by rw [negN_len, List.length_take, Hmo.out]; omega
      by_cases hjl : j < mo
      · obtain ⟨g, rfl, hg1, hg2, cN, -⟩ := (ho.keep (hB4.trans (hb.mono hzw4))).at' j (by rw [Hmo.out]; exact hjl)
        have hsn : Hid (negN (nd.take (j + 1)) = negN (nd.take j) ++ [-(nd[j]'(by rw [Hmo.out]; exact hjl))]) := Lib.hid (by rw [List.take_succ_eq_append_getElem (by rw [Hmo.out]; exact hjl), negN, List.map_append]; rfl)
        obtain ⟨x1, x2⟩ := Hnb.out _ (List.getElem_mem (show j < nd.length by rw [Hmo.out]; exact hjl))
        generalize nd[j]'(by rw [Hmo.out]; exact hjl) = x at *
        have hI2 := hI.keep ((Below.refl wr.heap.size wr).alloc (Nat.le_refl _) (.cells #[.int .i64 (-x)] 3))
        have hown2 : (wr.alloc (.cells #[.int .i64 (-x)] 3)).ownsRow w4.heap.size 3 1 (.slice Ao j cap) j ((negN (nd.take j)).map (Value.int .i64)) := by
          have := hI2.1
          rw [hlk] at this
          exact this
        have hb2 : Below w4.heap.size w4 (wr.alloc (.cells #[.int .i64 (-x)] 3)) := by (repeat (first | (with_reducible assumption) | (with_reducible exact Below.refl _ _) | ((with_reducible refine Below.alloc ?_ ?hsz _); (case hsz => (first | omega | (simp; done) | (simp; omega) | (simp at *; omega)))) | ((with_reducible refine Below.setCell ?_ ?hsz _); (case hsz => (first | omega | (simp; done) | (simp; omega) | (simp at *; omega)))) | (with_reducible refine Below.drew ?_) | (with_reducible refine below_drewN ?_ _) | ((with_reducible refine Below.trans ?_ (Below.mono (by with_reducible assumption) ?hsz)); (case hsz => (first | omega | (simp; done) | (simp; omega) | (simp at *; omega))))))
        go_wp2_with (first
          | (at_builtin
             go_must (refine wpList_append_src rfl _ _ 40 rfl w4.heap.size 3 i0 _ 1 8 Try.underlying40 hi0 hz0 hz1' hz2' rfl (by omega) _ _ j 1 _ _ (by rfl) rfl hown2 (lit_src (heap_alloc_new _ _) rfl (by simp [Value.oneCell'])) (by unfold maxLen; omega) (by omega) (by simp; omega) ?_)
             intro r7 w7 hown7 hgr7 hat7))
        have hr7 : Ints w7 w4.heap.size r7 (negN (nd.take j) ++ [-x]) := ints_snoc (xs := negN (nd.take j)) (by rw [hlk]; exact hown7) (by rw [hlk]; unfold small; omega)
        have hb7 : Below w4.heap.size w4 w7 := Below.grown hb2 hgr7 hb2.size (fun q hq => (hown2.lt q hq).1)
        obtain ⟨A7, c7, hv, -⟩ := hr7.form
        have hl7' : (negN (nd.take j) ++ [-x]).length = j + 1 := by rw [List.length_append, hlk]; rfl
        rw [hl7'] at hv
        refine ⟨⟨j + 1, c7, A7, by omega, by go_num, hv, by rw [hsn.out, ← hv]; exact hr7, hb7⟩, by simp [intOf]; omega⟩
      · have hjm : j = mo := by omega
        subst hjm
        have hIo : Ints wr w4.heap.size (.slice Ao j cap) (negN nd) := by
          have := hI
          rwa [List.take_of_length_le (by rw [Hmo.out]; omega)] at this
        have bxE := bx4.keep hb
        have hBE := hB4.trans (hb.mono hzw4)
        have hzE := hBE.size
        clear hI hlk HE
        obtain ⟨bs, d0, d1, g0, g1⟩ := id bxE
        have hs5 := hs4.keep hb
        clear hb hs4
        go_wp2_with fail
        with_reducible refine (costOf_any z _ _ ps (feedL z ps nd) _ _ _ (hp.keep hBE) hs5).mono ?_
        rintro e w6 ⟨rfl, hnn⟩
        rw [HC.out]
        have bx6 := bxE.keep hnn
        have hB6 : Below w1.heap.size w1 w6 := by (repeat (first | (with_reducible assumption) | (with_reducible exact Below.refl _ _) | ((with_reducible refine Below.alloc ?_ ?hsz _); (case hsz => (first | omega | (simp; done) | (simp; omega) | (simp at *; omega)))) | ((with_reducible refine Below.setCell ?_ ?hsz _); (case hsz => (first | omega | (simp; done) | (simp; omega) | (simp at *; omega)))) | (with_reducible refine Below.drew ?_) | (with_reducible refine below_drewN ?_ _) | ((with_reducible refine Below.trans ?_ (Below.mono (by with_reducible assumption) ?hsz)); (case hsz => (first | omega | (simp; done) | (simp; omega) | (simp at *; omega))))))
        have hI6 := hIo.keep hnn
        clear hnn d0 d1 g0 g1 bs bxE hIo hs5
        obtain ⟨bs, d0, d1, g0, g1⟩ := id bx6
        go_wp2_with fail
        with_reducible refine (turned_any z _ ps _ _ (hp.keep hB6)).mono ?_
        rintro e w7 ⟨sT, rfl, hT7, hnn⟩
        rw [(turn_yes hok).2] at hT7
        rw [(turn_yes hok).1]
        have hB7 : Below w1.heap.size w1 w7 := by (repeat (first | (with_reducible assumption) | (with_reducible exact Below.refl _ _) | ((with_reducible refine Below.alloc ?_ ?hsz _); (case hsz => (first | omega | (simp; done) | (simp; omega) | (simp at *; omega)))) | ((with_reducible refine Below.setCell ?_ ?hsz _); (case hsz => (first | omega | (simp; done) | (simp; omega) | (simp at *; omega)))) | (with_reducible refine Below.drew ?_) | (with_reducible refine below_drewN ?_ _) | ((with_reducible refine Below.trans ?_ (Below.mono (by with_reducible assumption) ?hsz)); (case hsz => (first | omega | (simp; done) | (simp; omega) | (simp at *; omega))))))
        have hz7 := hB7.size
        have hI7 := hI6.keep hnn
        clear hnn d0 d1 g0 g1 bs bx6 hI6
        go_wp2_with fail
        with_reducible refine (cheapestFeed_any z _ _ (ps.map turnP) (negN nd) _ _ _ hT7 hI7).mono ?_
        rintro e w8 ⟨rfl, hnn⟩
        rw [HT.out]
        have hB8 : Below w1.heap.size w1 w8 := by (repeat (first | (with_reducible assumption) | (with_reducible exact Below.refl _ _) | ((with_reducible refine Below.alloc ?_ ?hsz _); (case hsz => (first | omega | (simp; done) | (simp; omega) | (simp at *; omega)))) | ((with_reducible refine Below.setCell ?_ ?hsz _); (case hsz => (first | omega | (simp; done) | (simp; omega) | (simp at *; omega)))) | (with_reducible refine Below.drew ?_) | (with_reducible refine below_drewN ?_ _) | ((with_reducible refine Below.trans ?_ (Below.mono (by with_reducible assumption) ?hsz)); (case hsz => (first | omega | (simp; done) | (simp; omega) | (simp at *; omega))))))
        have hle := HL.out
        generalize costS ps (feedL z ps nd) = C at *
        clear hnn HL HC HT
        go_wp2
        (go_ret; exact ⟨rfl, hBw1.trans (Below.mono (by with_reducible assumption) hBw1.size)⟩)
  · have hc' : feedB z ps nd = false := by simpa using hc
    have hL0 : (feedL z ps nd).length = 0 := by rw [feedL_no hc']; rfl
    rw [cfeed_no hc']
    go_wp2_with fail
    with_reducible refine (feedingOf_any z _ _ ps nd _ _ _ (hp.keep hB3) (ho.keep hB3)).mono ?_
    rintro e w4 ⟨s4, rfl, hs4, hnn⟩
    rw [hc']
    have bx4 := bx3.keep hnn
    have hB4 : Below w1.heap.size w1 w4 := by (repeat (first | (with_reducible assumption) | (with_reducible exact Below.refl _ _) | ((with_reducible refine Below.alloc ?_ ?hsz _); (case hsz => (first | omega | (simp; done) | (simp; omega) | (simp at *; omega)))) | ((with_reducible refine Below.setCell ?_ ?hsz _); (case hsz => (first | omega | (simp; done) | (simp; omega) | (simp at *; omega)))) | (with_reducible refine Below.drew ?_) | (with_reducible refine below_drewN ?_ _) | ((with_reducible refine Below.trans ?_ (Below.mono (by with_reducible assumption) ?hsz)); (case hsz => (first | omega | (simp; done) | (simp; omega) | (simp at *; omega))))))
    clear hnn d0 d1 g0 g1 bs hc hs4
    obtain ⟨bs, d0, d1, g0, g1⟩ := id bx4
    go_wp2_with fail
    with_reducible refine (alive_any _).mono ?_
    rintro e w5 ⟨rfl, hnn⟩
    have bx5 := (bx4).keep hnn
    have hB5 : Below w1.heap.size w1 w5 := by (repeat (first | (with_reducible assumption) | (with_reducible exact Below.refl _ _) | ((with_reducible refine Below.alloc ?_ ?hsz _); (case hsz => (first | omega | (simp; done) | (simp; omega) | (simp at *; omega)))) | ((with_reducible refine Below.setCell ?_ ?hsz _); (case hsz => (first | omega | (simp; done) | (simp; omega) | (simp at *; omega)))) | (with_reducible refine Below.drew ?_) | (with_reducible refine below_drewN ?_ _) | ((with_reducible refine Below.trans ?_ (Below.mono (by with_reducible assumption) ?hsz)); (case hsz => (first | omega | (simp; done) | (simp; omega) | (simp at *; omega))))))
    clear hnn
    (try clear d0 d1 g0 g1)
    obtain ⟨bs, d0, d1, g0, g1⟩ := id bx5
    go_wp2
    (go_ret; exact ⟨rfl, hBw1.trans (Below.mono (by with_reducible assumption) hBw1.size)⟩)

set_option maxRecDepth 100000 in
theorem contract (H : Type) (enc : TypeId × Value → H) (W : World) (base : Nat) (args : Array Value) (ds gs : List (DataW H)) (before : List MemPlace)
    (hval : ∀ (j : Nat) t v, Try.f10.params[j]? = some t → args[j]? = some v → Value.okWide Try.prog W .any base t v)
    (hW : DataW.Whole enc Try.prog Try.f10.params.toList Rows.fnCheapestFeedSpec.vars false W args.toList ds gs before) :
    Calls Try.prog 10 args W fun e W' => ∃ v, e = .returned v ∧ Rows.fnCheapestFeedSpec.post enc Try.prog Try.f10 false true false false W args v W' := by
  have hW' := hW
  obtain ⟨p, q, hA0, hV, rfl, hfz, hnd⟩ := hW
  have hA : DataW.TrodAll enc Try.prog W 0 (fun _ => true) true Try.f10.params.toList args.toList ds p := hA0
  rw [Try.params10] at hA hval
  obtain ⟨u0, us0, d0, ds0, p0, q0, hargs, rfl, rfl, g0, k0⟩ := trodAll_cons hA
  obtain ⟨rfl, rfl, rfl⟩ := trodAll_nil k0
  obtain rfl : args = #[u0] := by cases args; simp_all
  obtain ⟨rfl, rfl⟩ := trodVars_none hV
  obtain ⟨m0, e0⟩ := g0
  obtain ⟨s0, l0, f0, hh0⟩ := open_arg_bytes e0
  have f0' := one_of_cells Try.underlying22 (hval 0 _ _ rfl rfl) f0
  subst f0'
  refine (walk _ l0 W hh0).mono fun e W' ⟨he, hb⟩ => ?_
  subst he
  exact ⟨_, rfl, law_post Try.kids Try.full (by rw [Try.params10]; decide) rfl rfl Try.underlying4 hW' rfl rfl rfl hb⟩

set_option maxRecDepth 100000 in
theorem lifted (os : Os) (started : os.Started) (H : Type) (enc : TypeId × Value → H) :
    ReturnsInHanded {} Try.checked os 10 .any (Rows.fnCheapestFeedSpec.pre6 enc Try.prog Try.f10 Rows.fnCheapestFeedRow.domain false) (Rows.fnCheapestFeedSpec.post enc Try.prog Try.f10 false true false false) := by
  refine returnsInHanded_of_change (C := Try.checked) Try.own started (by kernel_rfl) Try.func10
    (ChangeSpec.witness6 (enc := enc) (C := Try.checked) false ⟨#[], #[.slice none 0 0], []⟩ 8 (by kernel_rfl) (by kernel_rfl) (by kernel_rfl) (by kernel_rfl)) ?_
  intro W base args ds gs before hval0 hW _ _
  exact contract H enc W base args ds gs before hval0 hW

theorem proved : Rows.FnCheapestFeedSaid :=
  OpenClaim.holds_of_wide 10 Try.f10 rfl rfl rfl rfl rfl rfl rfl ⟨rfl, rfl, rfl, rfl, rfl⟩ rfl rfl rfl rfl rfl (by kernel_rfl) Try.func10 (by kernel_rfl)
    (of_decide_eq_true (by kernel_rfl)) (by unfold Func.isWrapper; first | (rw [if_pos (by decide +kernel)]; kernel_rfl) | (rw [if_neg (by decide +kernel)]; exact ⟨rfl, rfl⟩))
    (fun os started H enc _ => lifted os started H enc)

end Go.Proofs.Ytphbmlephldaaaa.lawCheapestFeed
