/- FnFewestBlocks: for every code the law holds: the program's blocks are the model's; without them there is no thread, without any of them alone there is one fewer; and each thread apart has just one of them. No condition. -/
import Derived.Test.YtmgpekdhcghabaaGreatGR12
import Derived.Test.YtmgpekdhcghabaaGreatGR14
import Derived.Test.YtmgpekdhcghabaaGreatGR3
import Derived.Test.YtmgpekdhcghabaaGreatGR11
import Derived.Test.YtmgpekdhcghabaaGreatZE
import Derived.Test.YtmgpekdhcghabaaGreatGR26
import Derived.Test.YtmgpekdhcghabaaGreatGR25
namespace Go.Proofs.YtmgpekdhcghabaaGreat.lawFewestBlocks
open Go.ChangeShapes Go.WideShapes Go.ChangeAt Go.RowKit Go.Deep Go.Joins

/-- what is known of the blocks and of the threads -/
theorem few_all {n a b : Int} {ps : List Pp} (h : endsB n ps a b = true) : ∃ N : Nat, (fewR n ps a b).length = N ∧ (apartR n ps a b).length = N ∧ N ≤ 7 ∧ (∀ x ∈ fewR n ps a b, outB n ps [x] = true ∧ (apartR n (outL [x] ps) a b).length = N - 1) ∧
    outB n ps (fewR n ps a b) = true ∧ (apartR n (outL (fewR n ps a b) ps) a b).length = 0 ∧ (∀ T ∈ apartR n ps a b, T.countP (fun x => decide (x ∈ fewR n ps a b)) = 1) ∧ (fewR n ps a b).Pairwise (· < ·) := by
  have hok := (ends_parts h).1
  have hg := unit_great h
  have he := (great_parts hg).2
  have hu := unit_unitB hok
  have hs := few_side he
  have hl7 := (netOk_parts hok).2.2.1
  have e1 : apartR n ps a b = apartU n (ps.map unitP) a b := by rw [apartR, if_pos h]
  have e2 : fewR n ps a b = blkL (fewS n (ps.map unitP) a b) (ps.map unitP) := by rw [fewR, if_pos h]
  have h1 := apart_len hg hu
  have h2 := blk_len (s := fewS n (ps.map unitP) a b) hu
  obtain ⟨s0, s1, sp, se⟩ := (narrow_mem he).1 hs
  have hle := fewR_len n ps a b
  have hout : ∀ xs : List Int, endsB n (outL xs ps) a b = true := fun xs => ends_out h xs
  have hlen : ∀ xs : List Int, ((apartR n (outL xs ps) a b).length : Int) = leastI n (outL xs (ps.map unitP)) a b := fun xs => by
    rw [apartR, if_pos (hout xs), unit_out]
    refine apart_len ?_ (outB_unit hu xs)
    have := unit_great (hout xs)
    rwa [unit_out] at this
  have hpl : ∀ xs : List Int, (∀ x ∈ xs, x ∈ fewR n ps a b) → outB n ps xs = true := fun xs hx => by
    simp only [outB, hok, Bool.true_and, placesB, List.all_eq_true]
    intro x hxm
    have := hx x hxm
    rw [e2, blk_mem] at this
    obtain ⟨i, hi, -, e⟩ := this
    rw [List.length_map] at hi
    simp only [withinB, Bool.and_eq_true, decide_eq_true_eq]
    omega
  refine ⟨(fewR n ps a b).length, rfl, by rw [e1]; rw [e2]; omega, by omega, fun x hx => ⟨hpl [x] (fun y hy => by simp at hy; rw [hy]; exact hx), ?_⟩, hpl _ (fun x hx => hx), ?_, fun T hT => ?_, ?_⟩
  · have h3 := hlen [x]
    rw [e2] at hx
    rw [least_less he hu hs hx] at h3
    have : 0 < (fewR n ps a b).length := by rw [e2]; exact List.length_pos_of_mem hx
    rw [e2] at this ⊢
    omega
  · have h3 := hlen (fewR n ps a b)
    rw [e2, least_none he hu hs] at h3
    rw [e2]; omega
  · rw [e1] at hT
    rw [e2]
    exact apart_one hg hu hs hT
  · rw [e2]; exact numW_pair _ _
theorem row_front1 {w : World} {b g n cap : Nat} {L : List Int} (h : Row w b g n cap L) {k : Nat} (hk : k < n) : Reads w (.slice (some ⟨g, k, none⟩) 1 (cap - k)) [L.getD k 0] :=
  ⟨some ⟨g, k, none⟩, cap - k, rfl, by have := h.capd; simp; omega, by have := h.capd; omega, by simp, fun _ => ⟨g, k, rfl, h.lt.2, fun j hj => by
    obtain rfl : j = 0 := by simp at hj; omega
    simpa using (h.at' k hk).1⟩⟩
theorem few_none {n a b : Int} {ps : List Pp} (h : endsB n ps a b = false) : fewR n ps a b = [] := by simp [fewR, h]

/-- what the operations yield -/
def fbV (B g k N c : Nat) (z : Int) (S : Value) (qs : List Pp) : Nat → Value → (Nat → Value) → World → Prop
  | 0, x, _, _ => x = .agg #[.int .i64 z, S]
  | 1, x, _, _ => x = .slice (some ⟨g, 0, none⟩) N c
  | 2, x, _, _ => x = .int .i64 (k : Int)
  | 3, x, _, _ => x = .int .i64 (k : Int)
  | 4, x, _, _ => x = .int .i64 ((k : Int) + 1)
  | 5, x, _, _ => x = .slice (some ⟨g, k, none⟩) 1 (c - k)
  | 6, x, _, w => ∃ s, x = .tuple #[.agg #[.int .i64 z, s], .bool true] ∧ Pipes w B s qs
  | 7, x, _, w => ∃ s, x = .tuple #[.agg #[.int .i64 z, s], .bool true] ∧ Pipes w B s qs
  | 8, x, _, w => ∃ s, x = .agg #[.int .i64 z, s] ∧ Pipes w B s qs
  | 9, x, _, _ => x = .bool true
  | 10, x, _, w => ∃ gb y0 y1, x = .pointer (some ⟨gb, 0, none⟩) ∧ B ≤ gb ∧ w.heap[gb]? = some (.cells #[y0, y1] 25)
  | 11, _, u, w => ∃ gb s, u 10 = .pointer (some ⟨gb, 0, none⟩) ∧ B ≤ gb ∧ Pipes w B s qs ∧ w.heap[gb]? = some (.cells #[.int .i64 z, s] 25)
  | 12, x, _, _ => x = .bool true
  | _, _, _, _ => True
/-- what an operation may turn -/
def fbR : Nat → World → World → Prop
  | 11, wx, wy => ∃ (gb : Nat) (y0 y1 : Value), wx.heap[gb]? = some (.cells #[y0, y1] 25) ∧ wx.grownBy wy (some gb)
  | _, wx, wy => Below wx.heap.size wx wy


/-- how many of the first numbers of a row are among others -/
def cntK (L T : List Int) (k : Nat) : Nat := (T.take k).countP fun x => decide (x ∈ L)
theorem cntK_succ {L T : List Int} {k : Nat} (h : k < T.length) : cntK L T (k + 1) = cntK L T k + if T[k] ∈ L then 1 else 0 := by
  unfold cntK
  rw [List.take_succ_eq_append_getElem h, List.countP_append]
  simp only [List.countP_cons, List.countP_nil, decide_eq_true_eq, Nat.zero_add]
theorem cntK_le (L T : List Int) (k : Nat) : cntK L T k ≤ k := Nat.le_trans List.countP_le_length (by rw [List.length_take]; omega)

set_option maxRecDepth 20000 in
set_option maxHeartbeats 4000000 in
set_option maxRecDepth 20000 in
theorem walk (v : Value) (n : Nat) (w : World) (h : ArgBytes w v n) :
    Calls Tryz.prog 4 #[v] w fun e w' => e = .returned (.bool true) ∧ Below w.heap.size w w' := by
  obtain ⟨A, c, rfl, hc1, hc2, -⟩ := id h
  unfold maxLen at hc2
  by_cases hbig : 1048576 < n
  · go_enter Tryz.func4, Tryz.ntmps4
    go_wp2
    go_ret
    exact ⟨rfl, by (repeat (first | (with_reducible assumption) | (with_reducible exact Below.refl _ _) | ((with_reducible refine Below.alloc ?_ ?hsz _); (case hsz => (first | omega | (simp; done) | (simp; omega) | (simp at *; omega)))) | ((with_reducible refine Below.setCell ?_ ?hsz _); (case hsz => (first | omega | (simp; done) | (simp; omega) | (simp at *; omega)))) | (with_reducible refine Below.drew ?_) | (with_reducible refine below_drewN ?_ _) | ((with_reducible refine Below.trans ?_ (Below.mono (by with_reducible assumption) ?hsz)); (case hsz => (first | omega | (simp; done) | (simp; omega) | (simp at *; omega))))))⟩
  go_enter Tryz.func4, Tryz.ntmps4
  go_wp2_with fail
  with_reducible refine (drawFewestBlocks_any _ n _ (h.keep (by (repeat (first | (with_reducible assumption) | (with_reducible exact Below.refl _ _) | ((with_reducible refine Below.alloc ?_ ?hsz _); (case hsz => (first | omega | (simp; done) | (simp; omega) | (simp at *; omega)))) | ((with_reducible refine Below.setCell ?_ ?hsz _); (case hsz => (first | omega | (simp; done) | (simp; omega) | (simp at *; omega)))) | (with_reducible refine Below.drew ?_) | (with_reducible refine below_drewN ?_ _) | ((with_reducible refine Below.trans ?_ (Below.mono (by with_reducible assumption) ?hsz)); (case hsz => (first | omega | (simp; done) | (simp; omega) | (simp at *; omega))))))))).mono ?_
  rintro e w1 ⟨z, ps, u, i, j, rfl, hp, hb1, hl8, hz1, hz6⟩
  have hBw1 : Below w.heap.size w w1 := by (repeat (first | (with_reducible assumption) | (with_reducible exact Below.refl _ _) | ((with_reducible refine Below.alloc ?_ ?hsz _); (case hsz => (first | omega | (simp; done) | (simp; omega) | (simp at *; omega)))) | ((with_reducible refine Below.setCell ?_ ?hsz _); (case hsz => (first | omega | (simp; done) | (simp; omega) | (simp at *; omega)))) | (with_reducible refine Below.drew ?_) | (with_reducible refine below_drewN ?_ _) | ((with_reducible refine Below.trans ?_ (Below.mono (by with_reducible assumption) ?hsz)); (case hsz => (first | omega | (simp; done) | (simp; omega) | (simp at *; omega))))))
  clear h hc1 hc2 hbig
  obtain ⟨A1, c1, rfl, hk1, hk2, hsm, -⟩ := hp.form
  unfold maxLen at hk2
  have bx1 : Box2 (w1.alloc (.cells #[.int .i64 z, .slice A1 ps.length c1] 25)) w1.heap.size (.int .i64 z) (.slice A1 ps.length c1) := Box2.new _ _ _ _
  have hB1 : Below w1.heap.size w1 (w1.alloc (.cells #[.int .i64 z, .slice A1 ps.length c1] 25)) := by (repeat (first | (with_reducible assumption) | (with_reducible exact Below.refl _ _) | ((with_reducible refine Below.alloc ?_ ?hsz _); (case hsz => (first | omega | (simp; done) | (simp; omega) | (simp at *; omega)))) | ((with_reducible refine Below.setCell ?_ ?hsz _); (case hsz => (first | omega | (simp; done) | (simp; omega) | (simp at *; omega)))) | (with_reducible refine Below.drew ?_) | (with_reducible refine below_drewN ?_ _) | ((with_reducible refine Below.trans ?_ (Below.mono (by with_reducible assumption) ?hsz)); (case hsz => (first | omega | (simp; done) | (simp; omega) | (simp at *; omega))))))
  obtain ⟨xs, fb, HT⟩ : ∃ xs fb, Hid (fewR z ps i j = xs ∧ fewB z ps i j = fb) := ⟨_, _, Lib.hid ⟨rfl, rfl⟩⟩
  go_wp2_with fail
  with_reducible refine (fewest_any z i j _ ps _ _ (hp.keep hB1)).mono ?_
  rintro e w2 ⟨r2, rfl, hL2, hn2⟩
  rw [HT.out.1] at hL2
  rw [HT.out.2]
  have bx2 := bx1.keep hn2
  have hB2 : Below w1.heap.size w1 w2 := by (repeat (first | (with_reducible assumption) | (with_reducible exact Below.refl _ _) | ((with_reducible refine Below.alloc ?_ ?hsz _); (case hsz => (first | omega | (simp; done) | (simp; omega) | (simp at *; omega)))) | ((with_reducible refine Below.setCell ?_ ?hsz _); (case hsz => (first | omega | (simp; done) | (simp; omega) | (simp at *; omega)))) | (with_reducible refine Below.drew ?_) | (with_reducible refine below_drewN ?_ _) | ((with_reducible refine Below.trans ?_ (Below.mono (by with_reducible assumption) ?hsz)); (case hsz => (first | omega | (simp; done) | (simp; omega) | (simp at *; omega))))))
  clear hn2
  (try clear d0 d1 g0 g1)
  obtain ⟨bs, d0, d1, g0, g1⟩ := id bx2
  obtain ⟨AL, cL, rfl, hl1, hl2, hl3, -⟩ := hL2.form
  unfold maxLen at hl2
  go_wp2_with fail
  with_reducible refine (specFewest_any z i j _ ps _ _ (hp.keep hB2)).mono ?_
  rintro e w3 ⟨r3, rfl, hL3, hn3⟩
  rw [HT.out.1] at hL3
  rw [HT.out.2]
  have bx3 := bx2.keep hn3
  have hL2' := hL2.keep hn3
  have hB3 : Below w1.heap.size w1 w3 := hB2.trans (hn3.mono hB2.size)
  clear hn3 d0 d1 g0 g1 hL2
  obtain ⟨bs, d0, d1, g0, g1⟩ := id bx3
  obtain ⟨A3, c3, rfl, -, -, -, -⟩ := hL3.form
  cases fb with
  | false =>
    have hx0 : xs = [] := HT.out.1.symm.trans (few_none HT.out.2)
    subst hx0
    simp only [List.length_nil] at *
    go_wp2_with fail
    with_reducible refine (sameInts_any _ _ [] [] _ _ _ hL2' hL3).mono ?_
    rintro e w4 ⟨rfl, hn4⟩
    have hB4 : Below w1.heap.size w1 w4 := hB3.trans (hn4.mono hB3.size)
    rw [show decide (([] : List Int) = []) = true from rfl]
    go_wp2_with fail
    with_reducible refine (alive_any _).mono ?_
    rintro e w5 ⟨rfl, hn5⟩
    have hB5 : Below w1.heap.size w1 w5 := hB4.trans (hn5.mono hB4.size)
    go_wp2
    (go_ret; exact ⟨rfl, hBw1.trans (Below.mono (by with_reducible assumption) hBw1.size)⟩)
  | true =>
    obtain ⟨N, e1, e2, hN7, e4, e5, e6, e7, e8⟩ := few_all HT.out.2
    rw [HT.out.1] at e1 e4 e5 e6 e7 e8
    obtain ⟨Ts, hTs⟩ : ∃ Ts, apartR z ps i j = Ts := ⟨_, rfl⟩
    rw [hTs] at e2 e7
    have HX := Lib.hid (And.intro e4 (And.intro e6 (And.intro e7 (And.intro e2 hTs))))
    have HO := Lib.hid (outB_yes e5)
    have HO5 := Lib.hid e5
    have Has := Lib.hid e8
    have HXN := Lib.hid e1
    rw [e1] at hl1 hl3 hL2' hL3 ⊢
    clear e1 e2 e4 e5 e6 e7 e8 hTs
    go_wp2_with fail
    with_reducible refine (sameInts_any _ _ xs xs _ _ _ hL2' hL3).mono ?_
    rintro e w4 ⟨rfl, hn4⟩
    rw [show decide (xs = xs) = true from decide_eq_true rfl]
    have bx4 := bx3.keep hn4
    have hL4 := hL2'.keep hn4
    have hB4 : Below w1.heap.size w1 w4 := hB3.trans (hn4.mono hB3.size)
    clear hn4 bx3 bx2 bx1 hL2' hL3 d0 d1 g0 g1 hB3 hB2 hB1
    obtain ⟨bs, d0, d1, g0, g1⟩ := id bx4
    go_wp2_with fail
    with_reducible refine (apart_any z i j _ ps _ _ (hp.keep hB4)).mono ?_
    rintro e w44 ⟨rt, rfl, hT4, hn44⟩
    rw [HX.out.2.2.2.2] at hT4
    obtain ⟨AT, cT, hvT, ht1, ht2, -, -⟩ := hT4.form
    unfold maxLen at ht2
    rw [HX.out.2.2.2.1] at hvT ht1
    subst hvT
    have bx44 := bx4.keep hn44
    have hL44 := hL4.keep hn44
    have hB44 : Below w1.heap.size w1 w44 := hB4.trans (hn44.mono hB4.size)
    clear hn44 d0 d1 g0 g1 bx4 hL4
    obtain ⟨bs, d0, d1, g0, g1⟩ := id bx44
    go_wp2_with fail
    with_reducible refine (withoutPipes_any z _ _ ps xs _ _ (hp.keep hB44) (Ints.reads hL44)).mono ?_
    rintro e w45 ⟨so, rfl, hqo, hn45⟩
    rw [HO.out.2] at hqo
    rw [HO.out.1, HO5.out]
    obtain ⟨qo, hqoe⟩ : ∃ qo, outL xs ps = qo := ⟨_, rfl⟩
    rw [hqoe] at hqo
    obtain ⟨Ao, co, rfl, -, hko, -, -⟩ := hqo.form
    unfold maxLen at hko
    obtain ⟨lo, hlo⟩ : ∃ l, qo.length = l := ⟨_, rfl⟩
    rw [hlo] at hqo ⊢
    obtain ⟨w5, hw5⟩ : ∃ W, W = w45.alloc (.cells #[.int .i64 z, .slice Ao lo co] 25) := ⟨_, rfl⟩
    have hb45 : Below w45.heap.size w45 w5 := by rw [hw5]; (repeat (first | (with_reducible assumption) | (with_reducible exact Below.refl _ _) | ((with_reducible refine Below.alloc ?_ ?hsz _); (case hsz => (first | omega | (simp; done) | (simp; omega) | (simp at *; omega)))) | ((with_reducible refine Below.setCell ?_ ?hsz _); (case hsz => (first | omega | (simp; done) | (simp; omega) | (simp at *; omega)))) | (with_reducible refine Below.drew ?_) | (with_reducible refine below_drewN ?_ _) | ((with_reducible refine Below.trans ?_ (Below.mono (by with_reducible assumption) ?hsz)); (case hsz => (first | omega | (simp; done) | (simp; omega) | (simp at *; omega))))))
    have bo5 : Box2 w5 w45.heap.size (.int .i64 z) (.slice Ao lo co) := by rw [hw5]; exact Box2.new _ _ _ _
    have hb445 := hn45.trans (hb45.mono hn45.size)
    have bx5 := bx44.keep hb445
    have hL5 := hL44.keep hb445
    have hT5 := hT4.keep hb445
    have hB5 : Below w1.heap.size w1 w5 := hB44.trans (hb445.mono hB44.size)
    have hqo5 := hqo.keep hb45
    have HOE := Lib.hid hqoe
    have hz5 := hB5.size
    clear hn45 hb45 hb445 bx44 hL44 hT4 hqo d0 d1 g0 g1 hqoe hlo hB44 hB4
    obtain ⟨bs, d0, d1, g0, g1⟩ := id bx5
    go_wp2_with fail
    rw [← hw5]
    clear hw5
    go_loopw [13] (fun a wr => ∃ k : Nat, k ≤ N ∧ a = .int .i64 k ∧ Box2 wr w1.heap.size (.int .i64 z) (.slice A1 ps.length c1) ∧ Below w1.heap.size w1 wr ∧ Below w5.heap.size w5 wr) (fun a _ => N - (intOf a).toNat)
    case atStart => exact ⟨0, by omega, rfl, bx5, hB5, Below.refl _ _⟩
    case round =>
      clear d0 d1 g0 g1 bs
      obtain ⟨k, hk, rfl, bxr, hBr, hbr⟩ := hrel
      obtain ⟨bs, d0, d1, g0, g1⟩ := id bxr
      have hzr := hbr.size
      have hLr := hL5.keep hbr
      by_cases hlt : k < N
      · have hkx : k < xs.length := by have := HXN.out; omega
        obtain ⟨g, cap, hv, hR⟩ := hLr.row (by omega)
        injection hv with v1 v2 v3
        subst v1
        subst v3
        have hRk0 := row_front1 hR (k := k) (by rw [HXN.out]; exact hlt)
        obtain ⟨xk, hxk⟩ : ∃ xk, xs.getD k 0 = xk := ⟨_, rfl⟩
        rw [hxk] at hRk0
        have hRk : Reads wr (.slice (some ⟨g, k, none⟩) 1 (cL - k)) [xk] := hRk0
        have hxm : xk ∈ xs := by
          rw [← hxk, getD_at hkx]; exact List.getElem_mem hkx
        obtain ⟨qk, hqk⟩ : ∃ qk, outL [xk] ps = qk := ⟨_, rfl⟩
        have HOK := Lib.hid (show outN z ps [xk] = z ∧ outR z ps [xk] = qk ∧ outB z ps [xk] = true by
          have h1 := (HX.out.1 xk hxm).1
          obtain ⟨a1, a2⟩ := outB_yes h1
          exact ⟨a1, by rw [a2, hqk], h1⟩)
        have HOK2 := Lib.hid (show (apartR z qk i j).length = N - 1 by rw [← hqk]; exact (HX.out.1 xk hxm).2)
        have hpr := hp.keep hBr
        have hgw := hR.lt.2
        have hk1z : (k : Int) + 1 ≤ (N : Int) := by omega
        have hcz : (N : Int) ≤ (cL : Int) := by omega
        have hcz2 : (k : Int) + 1 ≤ (cL : Int) := by omega
        clear hR hRk0 hxk hxm hqk v2
        go_wp2_with fail
        refine wp_region_flow 13 none [(0, 76), (1, 77), (2, 78), (3, 79), (4, 80), (5, 81), (6, 82), (7, 75), (8, 83), (9, 84), (10, 14), (12, 15)] (fun j x u wx => fbV wr.heap.size g k N cL z (.slice A1 ps.length c1) qk j x u wx) (fbR) (fun _ wx => Below wr.heap.size wr wx) (by kernel_rfl) (by kernel_rfl) rfl ⟨rfl, rfl, rfl, Nat.le_refl _, fun _ _ => rfl⟩ ?_ ?_ ?_ ?_
        · clear d0 d1
          intro i k hi hk hal x u wa wb hR hV
          have hk' : k < 13 := hk
          have hi' : i < 13 := hi
          by_cases ii : i = 11
          · subst ii
            obtain ⟨gb, y0, y1, hh, hg⟩ := hR
            rcases k with _ | _ | _ | _ | _ | _ | _ | _ | _ | _ | _ | _ | _ | k
            all_goals first | exact hV | (exfalso; revert hal; decide) | (exfalso; omega) | (obtain ⟨s, h1, h2⟩ := hV; exact ⟨s, h1, own_type h2.1 hg hh (by decide), h2.2⟩)
          · have hbb : Below wa.heap.size wa wb := by
              unfold fbR at hR
              split at hR
              · exact absurd rfl ii
              · exact hR
            rcases k with _ | _ | _ | _ | _ | _ | _ | _ | _ | _ | _ | _ | _ | k
            all_goals first
              | exact hV
              | (exfalso; omega)
              | (obtain ⟨s, h1, h2⟩ := hV; exact ⟨s, h1, h2.keep hbb⟩)
              | (obtain ⟨g, y0, y1, h1, h2, h3⟩ := hV; exact ⟨g, y0, y1, h1, h2, heap_keep h3 hbb⟩)
              | (obtain ⟨g, s, h1, h2, h3, h4⟩ := hV; exact ⟨g, s, h1, h2, h3.keep hbb, heap_keep h4 hbb⟩)
        · clear d0 d1
          intro k hk x u u' wx h hV
          have hk' : k < 13 := hk
          rcases k with _ | _ | _ | _ | _ | _ | _ | _ | _ | _ | _ | _ | _ | k
          all_goals first | exact hV | (exfalso; omega) | skip
          obtain ⟨g, s, h1, h2⟩ := hV
          exact ⟨g, s, by rw [← h 10 (by decide)]; exact h1, h2⟩
        · simp (maxSteps := 4000000) only [eachOp, fillF, List.setIfInBounds_toArray, List.set_cons_succ, List.set_cons_zero]
          refine ⟨?_, ?_, ?_, ?_, ?_, ?_, ?_, ?_, ?_, ?_, ?_, ?_, ?_, trivial⟩ <;> intro u f wx hC hd <;> (try simp [allV, useOf, Region.binds] at hd)
          · have hBz := hC.size
            have e0 := (hC.cell (p := ⟨w1.heap.size, 0, none⟩) (by (first | omega | (simp; done) | (simp; omega) | (simp at *; omega)))).trans d0
            have e1 := (hC.cell (p := ⟨w1.heap.size, 1, none⟩) (by (first | omega | (simp; done) | (simp; omega) | (simp at *; omega)))).trans d1
            go_wp2
            exact ⟨_, rfl, rfl, Below.refl _ _, hC⟩
          · have hBz := hC.size
            go_wp2
            exact ⟨_, rfl, rfl, Below.refl _ _, hC⟩
          · have hBz := hC.size
            go_wp2
            exact ⟨_, rfl, rfl, Below.refl _ _, hC⟩
          · have hBz := hC.size
            go_wp2
            exact ⟨_, rfl, rfl, Below.refl _ _, hC⟩
          · rw [show u 3 = _ from (by first | exact hd | exact hd.1 | exact hd.2 | exact hd.2.1 | exact hd.2.2 | exact hd.2.2.1 | exact hd.2.2.2 | exact hd.2.2.2.1 | exact hd.2.2.2.2)]
            have hBz := hC.size
            have hw : IntKind.i64.wrap ((k : Int) + 1) = (k : Int) + 1 := IntWalk.i64_in _ (by omega)
            go_wp2
            exact ⟨_, rfl, rfl, Below.refl _ _, hC⟩
          · rw [show u 1 = _ from (by first | exact hd | exact hd.1 | exact hd.2 | exact hd.2.1 | exact hd.2.2 | exact hd.2.2.1 | exact hd.2.2.2 | exact hd.2.2.2.1 | exact hd.2.2.2.2), show u 2 = _ from (by first | exact hd | exact hd.1 | exact hd.2 | exact hd.2.1 | exact hd.2.2 | exact hd.2.2.1 | exact hd.2.2.2 | exact hd.2.2.2.1 | exact hd.2.2.2.2), show u 4 = _ from (by first | exact hd | exact hd.1 | exact hd.2 | exact hd.2.1 | exact hd.2.2 | exact hd.2.2.1 | exact hd.2.2.2 | exact hd.2.2.2.1 | exact hd.2.2.2.2)]
            have hBz := hC.size
            go_wp2
            exact ⟨_, rfl, rfl, Below.refl _ _, hC⟩
          · rw [show u 0 = _ from (by first | exact hd | exact hd.1 | exact hd.2 | exact hd.2.1 | exact hd.2.2 | exact hd.2.2.1 | exact hd.2.2.2 | exact hd.2.2.2.1 | exact hd.2.2.2.2), show u 5 = _ from (by first | exact hd | exact hd.1 | exact hd.2 | exact hd.2.1 | exact hd.2.2 | exact hd.2.2.1 | exact hd.2.2.2 | exact hd.2.2.2.1 | exact hd.2.2.2.2)]
            have hBz := hC.size
            go_wp2_with fail
            refine (withoutPipes_any z _ _ ps [xk] _ wx (hpr.keep hC) (hRk.keep hC)).mono ?_
            rintro e wy ⟨s, rfl, hr, hby⟩
            rw [HOK.out.2.1] at hr
            rw [HOK.out.1, HOK.out.2.2]
            go_wp2
            exact ⟨_, rfl, ⟨_, rfl, hr.mono hBz⟩, hby, hC.trans (hby.mono hBz)⟩
          · have hBz := hC.size
            obtain ⟨s, h6, hs6⟩ : ∃ s, u 6 = .tuple #[.agg #[.int .i64 z, s], .bool true] ∧ Pipes wx wr.heap.size s qk := (by first | exact hd | exact hd.1 | exact hd.2)
            rw [h6]
            go_wp2
            exact ⟨_, rfl, ⟨_, rfl, hs6⟩, Below.refl _ _, hC⟩
          · have hBz := hC.size
            obtain ⟨s, h7, hs7⟩ : ∃ s, u 7 = .tuple #[.agg #[.int .i64 z, s], .bool true] ∧ Pipes wx wr.heap.size s qk := (by first | exact hd | exact hd.1 | exact hd.2)
            rw [h7]
            go_wp2
            exact ⟨_, rfl, ⟨_, rfl, hs7⟩, Below.refl _ _, hC⟩
          · have hBz := hC.size
            obtain ⟨s, h7, hs7⟩ : ∃ s, u 7 = .tuple #[.agg #[.int .i64 z, s], .bool true] ∧ Pipes wx wr.heap.size s qk := (by first | exact hd | exact hd.1 | exact hd.2)
            rw [h7]
            go_wp2
            exact ⟨_, rfl, rfl, Below.refl _ _, hC⟩
          · have hBz := hC.size
            go_wp2
            exact ⟨_, rfl, ⟨_, _, _, rfl, hBz, heap_alloc_new _ _⟩, (Below.refl _ _).alloc (Nat.le_refl _) _, hC.alloc hBz _⟩
          · have hBz := hC.size
            obtain ⟨gb, y0, y1, h9, hg9, hh9⟩ : ∃ gb y0 y1, u 10 = .pointer (some ⟨gb, 0, none⟩) ∧ wr.heap.size ≤ gb ∧ wx.heap[gb]? = some (.cells #[y0, y1] 25) := (by first | exact hd.1 | exact hd.2)
            obtain ⟨s, h8, hs8⟩ : ∃ s, u 8 = .agg #[.int .i64 z, s] ∧ Pipes wx wr.heap.size s qk := (by first | exact hd.2 | exact hd.1)
            obtain ⟨A8, c8, rfl, -⟩ := hs8.form
            obtain ⟨lq, hlq⟩ : ∃ l, qk.length = l := ⟨_, rfl⟩
            rw [hlq] at h8 hs8
            have e0 := heap_cell (j := 0) hh9 rfl
            have e1 := heap_cell (j := 1) hh9 rfl
            have f0 := heap_frozen (j := 0) hh9
            have f1 := heap_frozen (j := 1) hh9
            have hgl := heap_lt hh9
            rw [h8, h9]
            have hg1 := grown_set wx gb 0 (.int .i64 z)
            have hg2 := grown_set (wx.setCell ⟨gb, 0, none⟩ (.int .i64 z)) gb 1 (.slice A8 lq c8)
            have hh1 := heap_set (j := 0) (.int .i64 z) hh9
            have hh2 := heap_set (j := 1) (.slice A8 lq c8) hh1
            have hs80 : Pipes wx wr.heap.size (.slice A8 lq c8) qk := hs8
            have hp1 : Pipes _ wr.heap.size (.slice A8 lq c8) qk := ⟨own_type hs8.1 hg1 hh9 (by decide), hs8.2⟩
            have hp2 : Pipes _ wr.heap.size (.slice A8 lq c8) qk := ⟨own_type hp1.1 hg2 hh1 (by decide), hp1.2⟩
            have HG := Lib.hid (show fbR 11 wx ((wx.setCell ⟨gb, 0, none⟩ (.int .i64 z)).setCell ⟨gb, 1, none⟩ (.slice A8 lq c8)) from ⟨gb, y0, y1, hh9, grow_more hg1 hg2 (fun q hq => .inr hq)⟩)
            have hF := Lib.hid (And.intro hp2 hh2)
            have hbb := Lib.hid (show Below wr.heap.size wr ((wx.setCell ⟨gb, 0, none⟩ (.int .i64 z)).setCell ⟨gb, 1, none⟩ (.slice A8 lq c8)) from (hC.setCell (p := ⟨gb, 0, none⟩) hg9 _).setCell (p := ⟨gb, 1, none⟩) hg9 _)
            clear hp1 hp2 hh1 hh2 hg1 hg2 hs80 hs8 hh9 hlq
            go_wp2_with fail
            exact ⟨undef, rfl, ⟨gb, _, h9, hg9, hF.out.1, hF.out.2⟩, HG.out, hbb.out⟩
          · rw [show u 9 = _ from (by first | exact hd | exact hd.1 | exact hd.2 | exact hd.2.1 | exact hd.2.2 | exact hd.2.2.1 | exact hd.2.2.2 | exact hd.2.2.2.1 | exact hd.2.2.2.2)]
            have hBz := hC.size
            go_wp2
            exact ⟨_, rfl, rfl, Below.refl _ _, hC⟩
        · intro u f wx hC hfin
          simp only [fillEnd, fillF, Act.put, List.setIfInBounds_toArray, List.set_cons_succ, List.set_cons_zero]
          obtain ⟨gb, s, h9, hg9, hs9, hh9⟩ : ∃ gb s, u 10 = .pointer (some ⟨gb, 0, none⟩) ∧ wr.heap.size ≤ gb ∧ Pipes wx wr.heap.size s qk ∧ wx.heap[gb]? = some (.cells #[.int .i64 z, s] 25) := hfin 11 (by decide) (by decide)
          rw [show u 12 = _ from hfin 12 (by decide) (by decide), h9]
          obtain ⟨A9, c9, rfl, -⟩ := hs9.form
          obtain ⟨lq, hlq⟩ : ∃ l, qk.length = l := ⟨_, rfl⟩
          rw [hlq] at hs9 hh9
          have hBz := hC.size
          have e0 := heap_cell (j := 0) hh9 rfl
          have e1 := heap_cell (j := 1) hh9 rfl
          have hB9 : Below w1.heap.size w1 wx := hBr.trans (hC.mono (by omega))
          have hb59 : Below w5.heap.size w5 wx := hbr.trans (hC.mono (by omega))
          have bx9 := bxr.keep hC
          clear hfin h9 hh9 hC hlq d0 d1
          go_wp2_with fail
          refine (apart_any z i j _ qk _ wx hs9).mono ?_
          rintro e wy ⟨rt, rfl, hT9, hby⟩
          obtain ⟨At, ct, rfl, -, -, -, -⟩ := hT9.form
          rw [HOK2.out]
          have HE := Lib.hid (And.intro (bx9.keep hby) (And.intro (hB9.trans (hby.mono hB9.size)) (hb59.trans (hby.mono hb59.size))))
          clear hT9 hby bx9 hB9 hb59
          have hw2 : IntKind.i64.wrap ((N : Int) - 1) = (N : Int) - 1 := IntWalk.i64_in _ (by omega)
          have hne : (((N - 1 : Nat) : Int) != (N : Int) - 1) = false := by rw [bne_eq_false_iff_eq]; omega
          go_wp2
          go_roundw
          case rel => exact ⟨k + 1, by omega, by go_num, HE.out.1, HE.out.2.1, HE.out.2.2⟩
          case measure => simp [intOf]; omega
      · have hk2 : N = k := by omega
        subst hk2
        obtain ⟨w6, hw6⟩ : ∃ w6, w6 = wr := ⟨_, rfl⟩
        subst hw6
        have hL6 := hL5.keep hbr
        have hT6 := hT5.keep hbr
        have bo6 := bo5.keep hbr
        have hqo6 := hqo5.keep hbr
        obtain ⟨AT', cT', hv', -, -, -, hcellT⟩ := hT6.form
        injection hv' with v1' v2' v3'
        subst v1'
        clear v2' v3' hT5 hT6 bo5 hqo5 hL5 bx5 hB5 d0 d1 g0 g1 bs
        go_wp2_with fail
        go_loopw [16] (fun a wr => ∃ k : Nat, k ≤ N ∧ a = .int .i64 k ∧ Below w6.heap.size w6 wr) (fun a _ => N - (intOf a).toNat)
        case atStart => exact ⟨0, by omega, rfl, Below.refl _ _⟩
        case round =>
          obtain ⟨k, hk, rfl, hb⟩ := hrel
          obtain ⟨wo, hwo⟩ : ∃ wo, wo = wr := ⟨_, rfl⟩
          subst hwo
          have hzo := hb.size
          by_cases hlt : k < N
          · have hkT : k < Ts.length := by have := HX.out.2.2.2.1; omega
            obtain ⟨gT, vk, hA, -, hgT, cTk, hRd⟩ := hcellT wo hb k hkT
            subst hA
            have hgTo : gT < wo.heap.size := by omega
            have h1c := HX.out.2.2.1 _ (List.getElem_mem hkT)
            obtain ⟨T, hTT⟩ : ∃ T, Ts[k] = T := ⟨_, rfl⟩
            rw [hTT] at hRd h1c
            obtain ⟨Ak, ck, rfl, hm1, hm2, hm3, hcellK⟩ := hRd.form
            unfold maxLen at hm2
            obtain ⟨M, hM⟩ : ∃ M, T.length = M := ⟨_, rfl⟩
            have HM := Lib.hid hM
            have H1 := Lib.hid (show cntK xs T M = 1 by
              unfold cntK
              rw [List.take_of_length_le (by omega)]
              exact h1c)
            rw [hM] at hm1 hm3 cTk
            clear hRd h1c hTT hM
            go_wp2_with fail
            go_loopw [18, 17] (fun a c wr => ∃ q : Nat, q ≤ M ∧ a = .int .i64 q ∧ c = .int .i64 (cntK xs T q : Int) ∧ Below wo.heap.size wo wr) (fun a _ _ => M - (intOf a).toNat)
            case atStart => exact ⟨0, by omega, rfl, by simp [cntK], Below.refl _ _⟩
            case round =>
              obtain ⟨q, hq, rfl, rfl, hb2⟩ := hrel
              have cTr := (hb2.cell (p := ⟨gT, k, none⟩) hgTo).trans cTk
              have hzr := hb2.size
              have hqM := cntK_le xs T q
              by_cases hql : q < M
              · have hqT : q < T.length := by have := HM.out; omega
                obtain ⟨gk, ok, hAk, hgk, cx⟩ := hcellK wr hb2 q hqT
                subst hAk
                have Hs := Lib.hid (cntK_succ (L := xs) hqT)
                obtain ⟨x, hx⟩ : ∃ x, T[q] = x := ⟨_, rfl⟩
                rw [hx] at cx Hs
                clear hx
                have hLq := hL6.keep (hb.trans (hb2.mono hzo))
                go_wp2_with fail
                with_reducible refine (hasInt_any _ xs x _ _ hLq).mono ?_
                rintro e w7 ⟨rfl, hb7⟩
                have hb27 := Lib.hid (hb2.trans (hb7.mono hzr))
                clear hb7 cx hLq
                by_cases hm : x ∈ xs
                · rw [decide_eq_true hm]
                  rw [if_pos hm] at Hs
                  have hw7 : IntKind.i64.wrap ((cntK xs T q : Int) + 1) = (cntK xs T q : Int) + 1 := IntWalk.i64_in _ (by omega)
                  clear hm
                  go_wp2
                  go_roundw
                  case rel => exact ⟨q + 1, by omega, by go_num, by rw [Hs.out]; rfl, hb27.out⟩
                  case measure => simp [intOf]; omega
                · rw [decide_eq_false hm]
                  rw [if_neg hm] at Hs
                  clear hm
                  go_wp2
                  go_roundw
                  case rel => exact ⟨q + 1, by omega, by go_num, by rw [Hs.out]; rfl, hb27.out⟩
                  case measure => simp [intOf]; omega
              · have hq2 : M = q := by omega
                subst hq2
                rw [show ((cntK xs T M : Nat) : Int) = 1 by rw [H1.out]; rfl]
                have HB := Lib.hid (hb.trans (hb2.mono hzo))
                clear hb2 hb
                go_wp2
                go_roundw
                case rel => exact ⟨k + 1, by omega, by go_num, HB.out⟩
                case measure => simp [intOf]; omega
          · have bo7 := bo6.keep hb
            have hq7 := hqo6.keep hb
            have hL7 := hL6.keep hb
            have hB7 : Below w1.heap.size w1 wo := hBr.trans (hb.mono (by omega))
            obtain ⟨bs, e0, e1, h0, h1⟩ := id bo7
            clear bo7 bo6 hqo6 hb hcellT
            go_wp2_with fail
            with_reducible refine (apart_any z i j _ qo _ _ hq7).mono ?_
            rintro e w8 ⟨ro, rfl, hT8, hn8⟩
            rw [← HOE.out] at hT8
            obtain ⟨A8, c8, hv8, -, -, -, -⟩ := hT8.form
            rw [HX.out.2.1] at hv8
            subst hv8
            have hL8 := hL7.keep hn8
            have hB8 := hB7.trans (hn8.mono hB7.size)
            clear hT8 hn8 hq7 hL7
            go_wp2_with fail
            with_reducible refine (ascend_any _ xs _ _ hL8 Has.out).mono ?_
            rintro e w9 ⟨rfl, hn9⟩
            have hB9 : Below w1.heap.size w1 w9 := hB8.trans (hn9.mono hB8.size)
            go_wp2
            (go_ret; exact ⟨rfl, hBw1.trans (Below.mono (by with_reducible assumption) hBw1.size)⟩)

set_option maxRecDepth 100000 in
theorem contract (H : Type) (enc : TypeId × Value → H) (W : World) (base : Nat) (args : Array Value) (ds gs : List (DataW H)) (before : List MemPlace)
    (hval : ∀ (j : Nat) t v, Tryz.f4.params[j]? = some t → args[j]? = some v → Value.okWide Tryz.prog W .any base t v)
    (hW : DataW.Whole enc Tryz.prog Tryz.f4.params.toList Rows.fnFewestBlocksSpec.vars false W args.toList ds gs before) :
    Calls Tryz.prog 4 args W fun e W' => ∃ v, e = .returned v ∧ Rows.fnFewestBlocksSpec.post enc Tryz.prog Tryz.f4 false true false false W args v W' := by
  have hW' := hW
  obtain ⟨p, q, hA0, hV, rfl, hfz, hnd⟩ := hW
  have hA : DataW.TrodAll enc Tryz.prog W 0 (fun _ => true) true Tryz.f4.params.toList args.toList ds p := hA0
  rw [Tryz.params4] at hA hval
  obtain ⟨u0, us0, d0, ds0, p0, q0, hargs, rfl, rfl, g0, k0⟩ := trodAll_cons hA
  obtain ⟨rfl, rfl, rfl⟩ := trodAll_nil k0
  obtain rfl : args = #[u0] := by cases args; simp_all
  obtain ⟨rfl, rfl⟩ := trodVars_none hV
  obtain ⟨m0, e0⟩ := g0
  obtain ⟨s0, l0, f0, hh0⟩ := open_arg_bytes e0
  have f0' := one_of_cells Tryz.underlying22 (hval 0 _ _ rfl rfl) f0
  subst f0'
  refine (walk _ l0 W hh0).mono fun e W' ⟨he, hb⟩ => ?_
  subst he
  exact ⟨_, rfl, law_post Tryz.kids Tryz.full (by rw [Tryz.params4]; decide) rfl rfl Tryz.underlying4 hW' rfl rfl rfl hb⟩

set_option maxRecDepth 100000 in
theorem lifted (os : Os) (started : os.Started) (H : Type) (enc : TypeId × Value → H) :
    ReturnsInHanded {} Tryz.checked os 4 .any (Rows.fnFewestBlocksSpec.pre6 enc Tryz.prog Tryz.f4 Rows.fnFewestBlocksRow.domain false) (Rows.fnFewestBlocksSpec.post enc Tryz.prog Tryz.f4 false true false false) := by
  refine returnsInHanded_of_change (C := Tryz.checked) Tryz.own started (by kernel_rfl) Tryz.func4
    (ChangeSpec.witness6 (enc := enc) (C := Tryz.checked) false ⟨#[], #[.slice none 0 0], []⟩ 8 (by kernel_rfl) (by kernel_rfl) (by kernel_rfl) (by kernel_rfl)) ?_
  intro W base args ds gs before hval0 hW _ _
  exact contract H enc W base args ds gs before hval0 hW

theorem proved : Rows.FnFewestBlocksSaid :=
  OpenClaim.holds_of_wide 4 Tryz.f4 rfl rfl rfl rfl rfl rfl rfl ⟨rfl, rfl, rfl, rfl, rfl⟩ rfl rfl rfl rfl rfl (by kernel_rfl) Tryz.func4 (by kernel_rfl)
    (of_decide_eq_true (by kernel_rfl)) (by unfold Func.isWrapper; first | (rw [if_pos (by decide +kernel)]; kernel_rfl) | (rw [if_neg (by decide +kernel)]; exact ⟨rfl, rfl⟩))
    (fun os started H enc _ => lifted os started H enc)

end Go.Proofs.YtmgpekdhcghabaaGreat.lawFewestBlocks
