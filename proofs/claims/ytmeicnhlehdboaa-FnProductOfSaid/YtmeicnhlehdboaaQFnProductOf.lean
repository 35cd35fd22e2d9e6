/- FnProductOf: for every code and all bytes more the law holds: the program's ProductOf answers as the model; the same for both rows exchanged; and a balanced flow's product with a tension is 0. No condition. -/
import Derived.Test.YtmeicnhlehdboaaL1
import Derived.Test.YtmeicnhlehdboaaDQ
import Derived.Test.YtmeicnhlehdboaaJ3
import Derived.Test.YtmeicnhlehdboaaJ6
import Derived.Test.YtmeicnhlehdboaaU2
import Derived.Test.YtmeicnhlehdboaaW3
import Derived.Test.YtmeicnhlehdboaaX4
namespace Go.Proofs.Ytmeicnhlehdboaa.lawProductOf
open Go.ChangeShapes Go.WideShapes Go.ChangeAt Go.RowKit Go.Deep Go.Joins

theorem prodB_comm (n : Int) (ps : List Pp) (a b : List Int) : prodB n ps a b = prodB n ps b a := by
  unfold prodB
  cases netOkB n ps <;> cases rowB a (ps.length : Int) (-80) 80 <;> cases rowB b (ps.length : Int) (-80) 80 <;> rfl
theorem prodR_comm (n : Int) (ps : List Pp) (a b : List Int) : prodR n ps a b = prodR n ps b a := by
  unfold prodR
  rw [prodB_comm, prodI_comm]
/-- a row that has a product with some row has one with a tension of heights from -10 to 10, and it is 0 if the row is a balanced flow -/
theorem prod_tens {n : Int} {ps : List Pp} {xs ys hs : List Int} (h : prodB n ps xs ys = true) (hl : (hs.length : Int) = n) (hb : ∀ x ∈ hs, -10 ≤ x ∧ x ≤ 10) :
    tensR n ps hs = tensL (lab hs) ps ∧ prodB n ps xs (tensL (lab hs) ps) = true ∧ (balB n ps xs = true → prodR n ps xs (tensL (lab hs) ps) = 0) := by
  have h' := h
  simp only [prodB, Bool.and_eq_true] at h'
  obtain ⟨⟨hn, ra⟩, -⟩ := h'
  have ht : tensB n ps hs = true := by
    simp only [tensB, hn, Bool.true_and, rowB, withinB, Bool.and_eq_true, decide_eq_true_eq, List.all_eq_true]
    exact ⟨hl, fun x hx => by have := hb x hx; omega⟩
  have hlb : ∀ v : Int, -10 ≤ lab hs v ∧ lab hs v ≤ 10 := fun v => by
    unfold lab
    rcases Nat.lt_or_ge v.toNat hs.length with hv | hv
    · rw [List.getD_eq_getElem?_getD, List.getElem?_eq_getElem hv]
      exact hb _ (List.getElem_mem hv)
    · rw [List.getD_eq_getElem?_getD, List.getElem?_eq_none hv]; decide
  have hp : prodB n ps xs (tensL (lab hs) ps) = true := by
    have hr : rowB (tensL (lab hs) ps) (ps.length : Int) (-80) 80 = true := by
      simp only [rowB, withinB, tensL_len, decide_true, Bool.true_and, Bool.and_eq_true, List.all_eq_true, decide_eq_true_eq]
      intro x hx
      obtain ⟨p, -, rfl⟩ := List.mem_map.1 hx
      have h1 := hlb p.to
      have h2 := hlb p.fr
      omega
    unfold prodB
    rw [hn, ra, hr]
    rfl
  refine ⟨by rw [tensR, if_pos ht], hp, fun hbal => ?_⟩
  rw [prodR, if_pos hp, prod_pot (lab hs) _ (net_ends' hn)]
  simp only [balB, Bool.and_eq_true, List.all_eq_true, List.mem_range, beq_iff_eq] at hbal
  exact nodeSum_zero _ _ fun v hv => by rw [hbal.2 v hv]; simp

/-- what the operations yield -/
def poV (N B : Nat) (sv fv hv : Value) (m : Int) (L : List Int) : Nat → Value → World → Prop
  | 0, x, _ => x = .agg #[.int .i64 (N : Int), sv]
  | 1, x, _ => x = fv
  | 2, x, _ => x = .agg #[.int .i64 (N : Int), sv]
  | 3, x, _ => x = hv
  | 4, x, w => Ints w B x L
  | 5, x, _ => x = .tuple #[.int .i64 m, .bool true]
  | 6, x, _ => x = .tuple #[.int .i64 m, .bool true]
  | 7, x, _ => x = .int .i64 m
  | 8, x, _ => x = .bool true
  | 9, x, _ => x = .int .i64 m
  | 10, x, _ => x = .bool true
  | _, _, _ => True
theorem poV_keep {N B : Nat} {sv fv hv : Value} {m : Int} {L : List Int} {x : Value} {k' : Nat} {w w' : World} (hb : Below w.heap.size w w') (h : poV N B sv fv hv m L k' x w) : poV N B sv fv hv m L k' x w' := by
  revert h
  unfold poV
  split <;> intro h <;> first | exact h | exact h.keep hb

set_option maxHeartbeats 4000000 in
set_option maxRecDepth 20000 in
theorem walk (v v2 : Value) (n n2 : Nat) (w : World) (h : ArgBytes w v n) (h2 : ArgBytes w v2 n2) :
    Calls Try.prog 6 #[v, v2] w fun e w' => e = .returned (.bool true) ∧ Below w.heap.size w w' := by
  obtain ⟨A, c, rfl, hc1, hc2, -⟩ := id h
  obtain ⟨A2, c2, rfl, hd1, hd2, hcell2⟩ := id h2
  unfold maxLen at hc2 hd2
  by_cases hbig : 1048576 < n
  · go_enter Try.func6, Try.ntmps6
    go_wp2
    go_ret
    exact ⟨rfl, by (repeat (first | (with_reducible assumption) | (with_reducible exact Below.refl _ _) | ((with_reducible refine Below.alloc ?_ ?hsz _); (case hsz => (first | omega | (simp; done) | (simp; omega) | (simp at *; omega)))) | ((with_reducible refine Below.setCell ?_ ?hsz _); (case hsz => (first | omega | (simp; done) | (simp; omega) | (simp at *; omega)))) | (with_reducible refine Below.drew ?_) | (with_reducible refine below_drewN ?_ _) | ((with_reducible refine Below.trans ?_ (Below.mono (by with_reducible assumption) ?hsz)); (case hsz => (first | omega | (simp; done) | (simp; omega) | (simp at *; omega))))))⟩
  by_cases hbig2 : 1048576 < n2
  · go_enter Try.func6, Try.ntmps6
    go_wp2
    go_ret
    exact ⟨rfl, by (repeat (first | (with_reducible assumption) | (with_reducible exact Below.refl _ _) | ((with_reducible refine Below.alloc ?_ ?hsz _); (case hsz => (first | omega | (simp; done) | (simp; omega) | (simp at *; omega)))) | ((with_reducible refine Below.setCell ?_ ?hsz _); (case hsz => (first | omega | (simp; done) | (simp; omega) | (simp at *; omega)))) | (with_reducible refine Below.drew ?_) | (with_reducible refine below_drewN ?_ _) | ((with_reducible refine Below.trans ?_ (Below.mono (by with_reducible assumption) ?hsz)); (case hsz => (first | omega | (simp; done) | (simp; omega) | (simp at *; omega))))))⟩
  go_enter Try.func6, Try.ntmps6
  go_wp2_with fail
  with_reducible refine (drawProductOf_any _ n _ (h.keep (by (repeat (first | (with_reducible assumption) | (with_reducible exact Below.refl _ _) | ((with_reducible refine Below.alloc ?_ ?hsz _); (case hsz => (first | omega | (simp; done) | (simp; omega) | (simp at *; omega)))) | ((with_reducible refine Below.setCell ?_ ?hsz _); (case hsz => (first | omega | (simp; done) | (simp; omega) | (simp at *; omega)))) | (with_reducible refine Below.drew ?_) | (with_reducible refine below_drewN ?_ _) | ((with_reducible refine Below.trans ?_ (Below.mono (by with_reducible assumption) ?hsz)); (case hsz => (first | omega | (simp; done) | (simp; omega) | (simp at *; omega))))))))).mono ?_
  rintro e w1 ⟨z, ps, u, xs, f, ys, t, rfl, hp, hx, hy, hb1, hl8⟩
  have hBw1 : Below w.heap.size w w1 := by (repeat (first | (with_reducible assumption) | (with_reducible exact Below.refl _ _) | ((with_reducible refine Below.alloc ?_ ?hsz _); (case hsz => (first | omega | (simp; done) | (simp; omega) | (simp at *; omega)))) | ((with_reducible refine Below.setCell ?_ ?hsz _); (case hsz => (first | omega | (simp; done) | (simp; omega) | (simp at *; omega)))) | (with_reducible refine Below.drew ?_) | (with_reducible refine below_drewN ?_ _) | ((with_reducible refine Below.trans ?_ (Below.mono (by with_reducible assumption) ?hsz)); (case hsz => (first | omega | (simp; done) | (simp; omega) | (simp at *; omega))))))
  have hn2 : n2 ≤ 1048576 := by omega
  clear h h2 hc1 hc2 hbig hbig2
  obtain ⟨A1, c1, rfl, hk1, hk2, hsm, -⟩ := hp.form
  obtain ⟨AX, cX, rfl, xk1, xk2, xk3, -⟩ := hx.form
  obtain ⟨AY, cY, rfl, yk1, yk2, yk3, -⟩ := hy.form
  unfold maxLen at hk2 xk2 yk2
  have bx1 : Box2 (w1.alloc (.cells #[.int .i64 z, .slice A1 ps.length c1] 25)) w1.heap.size (.int .i64 z) (.slice A1 ps.length c1) := Box2.new _ _ _ _
  have hB1 : Below w1.heap.size w1 (w1.alloc (.cells #[.int .i64 z, .slice A1 ps.length c1] 25)) := by (repeat (first | (with_reducible assumption) | (with_reducible exact Below.refl _ _) | ((with_reducible refine Below.alloc ?_ ?hsz _); (case hsz => (first | omega | (simp; done) | (simp; omega) | (simp at *; omega)))) | ((with_reducible refine Below.setCell ?_ ?hsz _); (case hsz => (first | omega | (simp; done) | (simp; omega) | (simp at *; omega)))) | (with_reducible refine Below.drew ?_) | (with_reducible refine below_drewN ?_ _) | ((with_reducible refine Below.trans ?_ (Below.mono (by with_reducible assumption) ?hsz)); (case hsz => (first | omega | (simp; done) | (simp; omega) | (simp at *; omega))))))
  go_wp2_with fail
  with_reducible refine (productOf_any z _ _ _ ps xs ys _ _ _ _ (hp.keep hB1) (hx.keep hB1) (hy.keep hB1)).mono ?_
  rintro e w2 ⟨rfl, hnn⟩
  have bx2 := (bx1).keep hnn
  have hB2 : Below w1.heap.size w1 w2 := by (repeat (first | (with_reducible assumption) | (with_reducible exact Below.refl _ _) | ((with_reducible refine Below.alloc ?_ ?hsz _); (case hsz => (first | omega | (simp; done) | (simp; omega) | (simp at *; omega)))) | ((with_reducible refine Below.setCell ?_ ?hsz _); (case hsz => (first | omega | (simp; done) | (simp; omega) | (simp at *; omega)))) | (with_reducible refine Below.drew ?_) | (with_reducible refine below_drewN ?_ _) | ((with_reducible refine Below.trans ?_ (Below.mono (by with_reducible assumption) ?hsz)); (case hsz => (first | omega | (simp; done) | (simp; omega) | (simp at *; omega))))))
  clear hnn
  (try clear d0 d1 g0 g1)
  obtain ⟨bs, d0, d1, g0, g1⟩ := id bx2
  go_wp2_with fail
  with_reducible refine (specProduct_any z _ _ _ ps xs ys _ _ _ _ (hp.keep hB2) (hx.keep hB2) (hy.keep hB2)).mono ?_
  rintro e w3 ⟨rfl, hnn⟩
  have bx3 := (bx2).keep hnn
  have hB3 : Below w1.heap.size w1 w3 := by (repeat (first | (with_reducible assumption) | (with_reducible exact Below.refl _ _) | ((with_reducible refine Below.alloc ?_ ?hsz _); (case hsz => (first | omega | (simp; done) | (simp; omega) | (simp at *; omega)))) | ((with_reducible refine Below.setCell ?_ ?hsz _); (case hsz => (first | omega | (simp; done) | (simp; omega) | (simp at *; omega)))) | (with_reducible refine Below.drew ?_) | (with_reducible refine below_drewN ?_ _) | ((with_reducible refine Below.trans ?_ (Below.mono (by with_reducible assumption) ?hsz)); (case hsz => (first | omega | (simp; done) | (simp; omega) | (simp at *; omega))))))
  clear hnn
  (try clear d0 d1 g0 g1)
  obtain ⟨bs, d0, d1, g0, g1⟩ := id bx3
  cases hpb : prodB z ps xs ys with
  | false =>
    have hp0 : prodR z ps xs ys = 0 := by rw [prodR, if_neg (by rw [hpb]; simp)]
    rw [hp0]
    clear hp0 hpb
    go_wp2_with fail
    with_reducible refine (alive_any _).mono ?_
    rintro e w4 ⟨rfl, hnn⟩
    have bx4 := (bx3).keep hnn
    have hB4 : Below w1.heap.size w1 w4 := by (repeat (first | (with_reducible assumption) | (with_reducible exact Below.refl _ _) | ((with_reducible refine Below.alloc ?_ ?hsz _); (case hsz => (first | omega | (simp; done) | (simp; omega) | (simp at *; omega)))) | ((with_reducible refine Below.setCell ?_ ?hsz _); (case hsz => (first | omega | (simp; done) | (simp; omega) | (simp at *; omega)))) | (with_reducible refine Below.drew ?_) | (with_reducible refine below_drewN ?_ _) | ((with_reducible refine Below.trans ?_ (Below.mono (by with_reducible assumption) ?hsz)); (case hsz => (first | omega | (simp; done) | (simp; omega) | (simp at *; omega))))))
    clear hnn
    (try clear d0 d1 g0 g1)
    obtain ⟨bs, d0, d1, g0, g1⟩ := id bx4
    go_wp2
    (go_ret; exact ⟨rfl, hBw1.trans (Below.mono (by with_reducible assumption) hBw1.size)⟩)
  | true =>
    have HM := Lib.hid (fun (hs : List Int) hl hb => prod_tens (hs := hs) hpb hl hb)
    have HBK := Lib.hid (And.intro ((prodR_comm z ps ys xs)) ((prodB_comm z ps ys xs).trans hpb))
    have hpb' := hpb
    simp only [prodB, Bool.and_eq_true] at hpb'
    obtain ⟨n2', n5, -, -⟩ := netOk_parts hpb'.1.1
    obtain ⟨N, rfl⟩ := Int.eq_ofNat_of_zero_le (show 0 ≤ z by omega)
    obtain ⟨pr, hpr⟩ : ∃ pr, prodR (N : Int) ps xs ys = pr := ⟨_, rfl⟩
    rw [hpr] at HBK ⊢
    have hpp : (pr != pr) = false := by simp
    have hN5 : N ≤ 5 := by omega
    obtain ⟨j0, hj0, hy0, hy1, hy2⟩ := info_parts int_info
    have HC2 := Lib.hid hcell2
    have hR0 : Row (w3.alloc (.cells #[] 3)) w3.heap.size w3.heap.size 0 0 [] :=
      ⟨World.ownsRow_lit (e := 3) (base := w3.heap.size) (size := 1) w3 #[] 0 (Nat.le_refl _) (by simp [maxLen]) rfl, by simp [small]⟩
    have bx5 := bx3.keep ((Below.refl w3.heap.size w3).alloc (Nat.le_refl _) (.cells #[] 3))
    have hB5 : Below w1.heap.size w1 (w3.alloc (.cells #[] 3)) := by (repeat (first | (with_reducible assumption) | (with_reducible exact Below.refl _ _) | ((with_reducible refine Below.alloc ?_ ?hsz _); (case hsz => (first | omega | (simp; done) | (simp; omega) | (simp at *; omega)))) | ((with_reducible refine Below.setCell ?_ ?hsz _); (case hsz => (first | omega | (simp; done) | (simp; omega) | (simp at *; omega)))) | (with_reducible refine Below.drew ?_) | (with_reducible refine below_drewN ?_ _) | ((with_reducible refine Below.trans ?_ (Below.mono (by with_reducible assumption) ?hsz)); (case hsz => (first | omega | (simp; done) | (simp; omega) | (simp at *; omega))))))
    have HZ3 : Hid (w1.heap.size < w3.heap.size) := Lib.hid (by have := bx3.1; omega)
    clear hpb hpb' n2' n5 hpr hcell2
    go_wp2
    go_loopw [13, 12] (fun a b wr => ∃ (k g1 c1' : Nat) (hs : List Int), k ≤ N ∧ a = .int .i64 (k : Int) ∧ b = .slice (some ⟨g1, 0, none⟩) k c1' ∧ Row wr w3.heap.size g1 k c1' hs ∧ (∀ h ∈ hs, -10 ≤ h ∧ h ≤ 10) ∧ Box2 wr w1.heap.size (.int .i64 (N : Int)) (.slice A1 ps.length c1) ∧ Below w1.heap.size w1 wr) (fun a _ _ => N - (intOf a).toNat)
    case atStart => exact ⟨0, w3.heap.size, 0, [], by omega, rfl, rfl, hR0, by simp, bx5, hB5⟩
    case round =>
      clear hR0 bx5 hB5 d0 d1 g0 g1
      obtain ⟨k, gh, ch, hs, hk, rfl, rfl, hR, hsb, bx, hB⟩ := hrel
      obtain ⟨bs, d0, d1, g0, g1⟩ := id bx
      have HSB := Lib.hid hsb
      clear hsb
      by_cases hlt : k < N
      · have hk4 : k ≤ 4 := by omega
        have hown := hR.1
        have hcap := hR.capd
        unfold maxLen at hcap
        have hrow : ∀ q, (Value.slice (some ⟨gh, 0, none⟩) k ch).ownBlock = some q → w3.heap.size ≤ q := fun q hq => (hown.lt q hq).1
        have hz3 : w1.heap.size < w3.heap.size := HZ3.out
        have hBs := hB.size
        by_cases hn0 : n2 = 0
        · have hn00 : ¬ (0 : Int) < (n2 : Int) := by omega
          clear hn0
          go_wp2_with (first
            | (at_builtin
               go_must (refine wpList_append_lies _ rfl _ _ 27 rfl w3.heap.size 3 j0 _ 1 8 Try.underlying27 hj0 hy0 hy1 hy2 rfl (by omega) _ k _ rfl (hown.alloc _) ⟨wr.heap.size, 0, none⟩ 1 1 [.int .i64 (0)] rfl rfl (World.news_of_block (cs := #[.int .i64 (0)]) (t := 3) (fr := (0, 0)) (heap_alloc_new _ _)) (by simp [Value.oneCell']) (by omega) (by unfold maxLen; omega) (by omega) (by have := hR.lt; simp; omega) _ rfl ?_)
               intro g2 k2 w7 hown7 hgr7 hat7 hlt7))
          have bx7 := (bx.keep ((Below.refl _ _).alloc (Nat.le_refl _) _)).grown hgr7 (by intro h; have := hrow _ h.symm; omega)
          have hB7 : Below w1.heap.size w1 w7 := Below.grown (w := wr.alloc (.cells #[.int .i64 (0)] 3)) (by (repeat (first | (with_reducible assumption) | (with_reducible exact Below.refl _ _) | ((with_reducible refine Below.alloc ?_ ?hsz _); (case hsz => (first | omega | (simp; done) | (simp; omega) | (simp at *; omega)))) | ((with_reducible refine Below.setCell ?_ ?hsz _); (case hsz => (first | omega | (simp; done) | (simp; omega) | (simp at *; omega)))) | (with_reducible refine Below.drew ?_) | (with_reducible refine below_drewN ?_ _) | ((with_reducible refine Below.trans ?_ (Below.mono (by with_reducible assumption) ?hsz)); (case hsz => (first | omega | (simp; done) | (simp; omega) | (simp at *; omega))))))) hgr7 (by (first | omega | (simp; done) | (simp; omega) | (simp at *; omega))) (fun q hq => by have := hrow q hq; omega)
          have hR8 : Row w7 w3.heap.size g2 (k + 1) k2 (hs ++ [0]) := ⟨by rw [List.map_append]; exact hown7, by unfold small; omega⟩
          have hsb' : ∀ h ∈ hs ++ [0], -10 ≤ h ∧ h ≤ 10 := by
            intro h hh
            rcases List.mem_append.1 hh with hh | hh
            · exact HSB.out h hh
            · simp only [List.mem_singleton] at hh
              subst hh
              omega
          clear hown7 hgr7 hat7 hlt7 bx hown hrow hR
          go_wp2
          go_roundw
          case rel => exact ⟨k + 1, g2, k2, _, by omega, by go_num, rfl, hR8, hsb', bx7, hB7⟩
          case measure => simp [intOf]; omega
        · have hn00 : (0 : Int) < (n2 : Int) := by omega
          have hq1 : k % n2 < n2 := Nat.mod_lt _ (by omega)
          obtain ⟨ga, o, x, rfl, hga, cx, x0, x1⟩ := HC2.out (k % n2) hq1
          have hBw : Below w.heap.size w wr := hBw1.trans (hB.mono hBw1.size)
          have cx' := (bel_cell hBw (by simpa using hga)).trans cx
          have hga' : ga < wr.heap.size := by have := hBw.size; omega
          have y0 : 0 ≤ x % 21 := Int.emod_nonneg _ (by omega)
          have y1 : x % 21 ≤ 20 := by omega
          clear cx hga hBw
          go_wp2_with (first
            | (at_builtin
               go_must (refine wpList_append_lies _ rfl _ _ 27 rfl w3.heap.size 3 j0 _ 1 8 Try.underlying27 hj0 hy0 hy1 hy2 rfl (by omega) _ k _ rfl (hown.alloc _) ⟨wr.heap.size, 0, none⟩ 1 1 [.int .i64 (x % 21 - 10)] rfl rfl (World.news_of_block (cs := #[.int .i64 (x % 21 - 10)]) (t := 3) (fr := (0, 0)) (heap_alloc_new _ _)) (by simp [Value.oneCell']) (by omega) (by unfold maxLen; omega) (by omega) (by have := hR.lt; simp; omega) _ rfl ?_)
               intro g2 k2 w7 hown7 hgr7 hat7 hlt7))
          have bx7 := (bx.keep ((Below.refl _ _).alloc (Nat.le_refl _) _)).grown hgr7 (by intro h; have := hrow _ h.symm; omega)
          have hB7 : Below w1.heap.size w1 w7 := Below.grown (w := wr.alloc (.cells #[.int .i64 (x % 21 - 10)] 3)) (by (repeat (first | (with_reducible assumption) | (with_reducible exact Below.refl _ _) | ((with_reducible refine Below.alloc ?_ ?hsz _); (case hsz => (first | omega | (simp; done) | (simp; omega) | (simp at *; omega)))) | ((with_reducible refine Below.setCell ?_ ?hsz _); (case hsz => (first | omega | (simp; done) | (simp; omega) | (simp at *; omega)))) | (with_reducible refine Below.drew ?_) | (with_reducible refine below_drewN ?_ _) | ((with_reducible refine Below.trans ?_ (Below.mono (by with_reducible assumption) ?hsz)); (case hsz => (first | omega | (simp; done) | (simp; omega) | (simp at *; omega))))))) hgr7 (by (first | omega | (simp; done) | (simp; omega) | (simp at *; omega))) (fun q hq => by have := hrow q hq; omega)
          have hR8 : Row w7 w3.heap.size g2 (k + 1) k2 (hs ++ [x % 21 - 10]) := ⟨by rw [List.map_append]; exact hown7, by unfold small; omega⟩
          have hsb' : ∀ h ∈ hs ++ [x % 21 - 10], -10 ≤ h ∧ h ≤ 10 := by
            intro h hh
            rcases List.mem_append.1 hh with hh | hh
            · exact HSB.out h hh
            · simp only [List.mem_singleton] at hh
              subst hh
              omega
          clear hown7 hgr7 hat7 hlt7 bx hown hrow hR
          go_wp2
          go_roundw
          case rel => exact ⟨k + 1, g2, k2, _, by omega, by go_num, rfl, hR8, hsb', bx7, hB7⟩
          case measure => simp [intOf]; omega
      · have hkN : N = k := by omega
        subst hkN
        generalize wr = w5 at *
        obtain ⟨HTB, HPB0, HMV0⟩ : Hid (tensR (N : Int) ps hs = tensL (lab hs) ps) ∧ Hid (prodB (N : Int) ps xs (tensL (lab hs) ps) = true) ∧ Hid (balB (N : Int) ps xs = true → prodR (N : Int) ps xs (tensL (lab hs) ps) = 0) := by
          obtain ⟨a, b, d⟩ := HM.out hs (by rw [hR.len]) HSB.out
          exact ⟨Lib.hid a, Lib.hid b, Lib.hid d⟩
        obtain ⟨TL, hTL⟩ : ∃ TL, tensL (lab hs) ps = TL := ⟨_, rfl⟩
        rw [hTL] at HTB HPB0 HMV0
        obtain ⟨mv, hmv⟩ : ∃ mv, prodR (N : Int) ps xs TL = mv := ⟨_, rfl⟩
        rw [hmv] at HMV0
        have HMV := HMV0
        have HPB : Hid (prodB (N : Int) ps xs TL = true ∧ prodR (N : Int) ps xs TL = mv) := Lib.hid ⟨HPB0.out, hmv⟩
        have hp5 := hp.keep hB
        have hx5 := hx.keep hB
        have hh5 := hR.ints
        have hC0 : Below w5.heap.size w5 { w5 with drawn := w5.drawn + 1 } := ⟨rfl, rfl, rfl, Nat.le_refl _, fun _ _ => rfl⟩
        have hkd : decide ((N : Int) < (N : Int)) = false := decide_eq_false (by omega)
        clear hTL hR hlt hk hmv HPB0 HMV0 HSB HM HC2 HZ3
        go_wp2_with fail
        refine wp_region_flow 11 none [(0, 87), (1, 88), (2, 89), (3, 90), (4, 91), (5, 92), (6, 86), (7, 93), (8, 94), (9, 15), (10, 16)] (fun j x _ wx => poV N w5.heap.size (.slice A1 ps.length c1) (.slice AX xs.length cX) (.slice (some ⟨gh, 0, none⟩) N ch) mv TL j x wx) (fun _ wa wb => Below wa.heap.size wa wb) (fun _ wx => Below w5.heap.size w5 wx) (by kernel_rfl) (by kernel_rfl) rfl hC0 ?_ ?_ ?_ ?_
        · exact fun _ k _ _ _ x _ wa wb hR h => poV_keep (k' := k) hR h
        · exact fun _ _ _ _ _ _ _ h => h
        · simp (maxSteps := 4000000) only [eachOp, fillF, List.setIfInBounds_toArray, List.set_cons_succ, List.set_cons_zero]
          refine ⟨?_, ?_, ?_, ?_, ?_, ?_, ?_, ?_, ?_, ?_, ?_, trivial⟩ <;> intro u f wx hC hd <;> (try simp [allV, useOf, Region.binds] at hd)
          · have e0 := (bel_cell hC (by omega)).trans d0
            have e1 := (bel_cell hC (by omega)).trans d1
            go_wp2
            exact ⟨_, rfl, rfl, Below.refl _ _, hC⟩
          · go_wp2
            exact ⟨_, rfl, rfl, Below.refl _ _, hC⟩
          · have e0 := (bel_cell hC (by omega)).trans d0
            have e1 := (bel_cell hC (by omega)).trans d1
            go_wp2
            exact ⟨_, rfl, rfl, Below.refl _ _, hC⟩
          · go_wp2
            exact ⟨_, rfl, rfl, Below.refl _ _, hC⟩
          · rw [show u 2 = _ from (by first | exact hd | exact hd.1 | exact hd.2 | exact hd.2.1 | exact hd.2.2 | exact hd.2.2.1 | exact hd.2.2.2 | exact hd.2.2.2.1 | exact hd.2.2.2.2), show u 3 = _ from (by first | exact hd | exact hd.1 | exact hd.2 | exact hd.2.1 | exact hd.2.2 | exact hd.2.2.1 | exact hd.2.2.2 | exact hd.2.2.2.1 | exact hd.2.2.2.2)]
            go_wp2_with fail
            refine (tensionOf_any (N : Int) _ _ ps hs _ w3.heap.size wx (hp5.keep hC) (hh5.keep hC)).mono ?_
            rintro e wy ⟨r, rfl, hr, hby⟩
            rw [HTB.out] at hr
            go_wp2
            exact ⟨_, rfl, hr.mono hC.size, hby, hC.trans (hby.mono hC.size)⟩
          · rw [show u 0 = _ from (by first | exact hd | exact hd.1 | exact hd.2 | exact hd.2.1 | exact hd.2.2 | exact hd.2.2.1 | exact hd.2.2.2 | exact hd.2.2.2.1 | exact hd.2.2.2.2), show u 1 = _ from (by first | exact hd | exact hd.1 | exact hd.2 | exact hd.2.1 | exact hd.2.2 | exact hd.2.2.1 | exact hd.2.2.2 | exact hd.2.2.2.1 | exact hd.2.2.2.2)]
            have h4 : Ints wx w5.heap.size (u 4) TL := (by first | exact hd | exact hd.1 | exact hd.2 | exact hd.2.1 | exact hd.2.2)
            obtain ⟨A4, c4, e4, -, -, -, -⟩ := h4.form
            rw [e4] at h4 ⊢
            go_wp2_with fail
            refine (productOf_any (N : Int) _ _ _ ps xs TL _ _ w5.heap.size wx (hp5.keep hC) (hx5.keep hC) h4).mono ?_
            rintro e wy ⟨rfl, hby⟩
            rw [HPB.out.1, HPB.out.2]
            go_wp2
            exact ⟨_, rfl, rfl, hby, hC.trans (hby.mono hC.size)⟩
          · rw [show u 5 = _ from (by first | exact hd | exact hd.1 | exact hd.2 | exact hd.2.1 | exact hd.2.2 | exact hd.2.2.1 | exact hd.2.2.2 | exact hd.2.2.2.1 | exact hd.2.2.2.2)]
            go_wp2
            exact ⟨_, rfl, rfl, Below.refl _ _, hC⟩
          · rw [show u 6 = _ from (by first | exact hd | exact hd.1 | exact hd.2 | exact hd.2.1 | exact hd.2.2 | exact hd.2.2.1 | exact hd.2.2.2 | exact hd.2.2.2.1 | exact hd.2.2.2.2)]
            go_wp2
            exact ⟨_, rfl, rfl, Below.refl _ _, hC⟩
          · rw [show u 6 = _ from (by first | exact hd | exact hd.1 | exact hd.2 | exact hd.2.1 | exact hd.2.2 | exact hd.2.2.1 | exact hd.2.2.2 | exact hd.2.2.2.1 | exact hd.2.2.2.2)]
            go_wp2
            exact ⟨_, rfl, rfl, Below.refl _ _, hC⟩
          · rw [show u 7 = _ from (by first | exact hd | exact hd.1 | exact hd.2 | exact hd.2.1 | exact hd.2.2 | exact hd.2.2.1 | exact hd.2.2.2 | exact hd.2.2.2.1 | exact hd.2.2.2.2)]
            go_wp2
            exact ⟨_, rfl, rfl, Below.refl _ _, hC⟩
          · rw [show u 8 = _ from (by first | exact hd | exact hd.1 | exact hd.2 | exact hd.2.1 | exact hd.2.2 | exact hd.2.2.1 | exact hd.2.2.2 | exact hd.2.2.2.1 | exact hd.2.2.2.2)]
            go_wp2
            exact ⟨_, rfl, rfl, Below.refl _ _, hC⟩
        · intro u f wx hC hfin
          simp only [fillEnd, fillF, Act.put, List.setIfInBounds_toArray, List.set_cons_succ, List.set_cons_zero]
          rw [show u 9 = _ from hfin 9 (by decide) (by decide), show u 10 = _ from hfin 10 (by decide) (by decide)]
          have hBx : Below w1.heap.size w1 wx := hB.trans (hC.mono hB.size)
          have bxx := bx.keep hC
          clear d0 d1 g0 g1 bs
          obtain ⟨bs, d0, d1, g0, g1⟩ := id bxx
          go_wp2_with fail
          with_reducible refine (productOf_any (N : Int) _ _ _ ps ys xs _ _ _ _ (hp.keep hBx) (hy.keep hBx) (hx.keep hBx)).mono ?_
          rintro e w6 ⟨rfl, hnn⟩
          have bx6 := (bxx).keep hnn
          have hB6 : Below w1.heap.size w1 w6 := by (repeat (first | (with_reducible assumption) | (with_reducible exact Below.refl _ _) | ((with_reducible refine Below.alloc ?_ ?hsz _); (case hsz => (first | omega | (simp; done) | (simp; omega) | (simp at *; omega)))) | ((with_reducible refine Below.setCell ?_ ?hsz _); (case hsz => (first | omega | (simp; done) | (simp; omega) | (simp at *; omega)))) | (with_reducible refine Below.drew ?_) | (with_reducible refine below_drewN ?_ _) | ((with_reducible refine Below.trans ?_ (Below.mono (by with_reducible assumption) ?hsz)); (case hsz => (first | omega | (simp; done) | (simp; omega) | (simp at *; omega))))))
          clear hnn
          (try clear d0 d1 g0 g1)
          obtain ⟨bs, d0, d1, g0, g1⟩ := id bx6
          rw [HBK.out.1, HBK.out.2]
          have hpp : (pr == pr) = true := by simp
          go_wp2_with fail
          with_reducible refine (balancedOk_any (N : Int) _ _ ps xs _ _ _ (hp.keep hB6) (hx.keep hB6)).mono ?_
          rintro e w7 ⟨rfl, hnn⟩
          have bx7 := (bx6).keep hnn
          have hB7 : Below w1.heap.size w1 w7 := by (repeat (first | (with_reducible assumption) | (with_reducible exact Below.refl _ _) | ((with_reducible refine Below.alloc ?_ ?hsz _); (case hsz => (first | omega | (simp; done) | (simp; omega) | (simp at *; omega)))) | ((with_reducible refine Below.setCell ?_ ?hsz _); (case hsz => (first | omega | (simp; done) | (simp; omega) | (simp at *; omega)))) | (with_reducible refine Below.drew ?_) | (with_reducible refine below_drewN ?_ _) | ((with_reducible refine Below.trans ?_ (Below.mono (by with_reducible assumption) ?hsz)); (case hsz => (first | omega | (simp; done) | (simp; omega) | (simp at *; omega))))))
          clear hnn
          (try clear d0 d1 g0 g1)
          obtain ⟨bs, d0, d1, g0, g1⟩ := id bx7
          cases hbal : balB (N : Int) ps xs with
          | false =>
            go_wp2
            (go_ret; exact ⟨rfl, hBw1.trans (Below.mono (by with_reducible assumption) hBw1.size)⟩)
          | true =>
            have hmv : mv = 0 := HMV.out hbal
            subst hmv
            go_wp2
            (go_ret; exact ⟨rfl, hBw1.trans (Below.mono (by with_reducible assumption) hBw1.size)⟩)

set_option maxRecDepth 100000 in
theorem contract (H : Type) (enc : TypeId × Value → H) (W : World) (base : Nat) (args : Array Value) (ds gs : List (DataW H)) (before : List MemPlace)
    (hval : ∀ (j : Nat) t v, Try.f6.params[j]? = some t → args[j]? = some v → Value.okWide Try.prog W .any base t v)
    (hW : DataW.Whole enc Try.prog Try.f6.params.toList Rows.fnProductOfSpec.vars false W args.toList ds gs before) :
    Calls Try.prog 6 args W fun e W' => ∃ v, e = .returned v ∧ Rows.fnProductOfSpec.post enc Try.prog Try.f6 false true false false W args v W' := by
  have hW' := hW
  obtain ⟨p, q, hA0, hV, rfl, hfz, hnd⟩ := hW
  have hA : DataW.TrodAll enc Try.prog W 0 (fun _ => true) true Try.f6.params.toList args.toList ds p := hA0
  rw [Try.params6] at hA hval
  obtain ⟨u0, us0, d0, ds0, p0, q0, hargs, rfl, rfl, g0, k0⟩ := trodAll_cons hA
  obtain ⟨u1, us1, d1, ds1, p1, q1, rfl, rfl, rfl, g1, k1⟩ := trodAll_cons k0
  obtain ⟨rfl, rfl, rfl⟩ := trodAll_nil k1
  obtain rfl : args = #[u0, u1] := by cases args; simp_all
  obtain ⟨rfl, rfl⟩ := trodVars_none hV
  obtain ⟨m0, e0⟩ := g0
  obtain ⟨s0, l0, f0, hh0⟩ := open_arg_bytes e0
  have f0' := one_of_cells Try.underlying22 (hval 0 _ _ rfl rfl) f0
  subst f0'
  obtain ⟨m1, e1⟩ := g1
  obtain ⟨s1, l1, f1, hh1⟩ := open_arg_bytes e1
  have f1' := one_of_cells Try.underlying22 (hval 1 _ _ rfl rfl) f1
  subst f1'
  refine (walk _ _ l0 l1 W hh0 hh1).mono fun e W' ⟨he, hb⟩ => ?_
  subst he
  exact ⟨_, rfl, law_post Try.kids Try.full (by rw [Try.params6]; decide) rfl rfl Try.underlying4 hW' rfl rfl rfl hb⟩

set_option maxRecDepth 100000 in
theorem lifted (os : Os) (started : os.Started) (H : Type) (enc : TypeId × Value → H) :
    ReturnsInHanded {} Try.checked os 6 .any (Rows.fnProductOfSpec.pre6 enc Try.prog Try.f6 Rows.fnProductOfRow.domain false) (Rows.fnProductOfSpec.post enc Try.prog Try.f6 false true false false) := by
  refine returnsInHanded_of_change (C := Try.checked) Try.own started (by kernel_rfl) Try.func6
    (ChangeSpec.witness6 (enc := enc) (C := Try.checked) false ⟨#[], #[.slice none 0 0, .slice none 0 0], []⟩ 8 (by kernel_rfl) (by kernel_rfl) (by kernel_rfl) (by kernel_rfl)) ?_
  intro W base args ds gs before hval0 hW _ _
  exact contract H enc W base args ds gs before hval0 hW

theorem proved : Rows.FnProductOfSaid :=
  OpenClaim.holds_of_wide 6 Try.f6 rfl rfl rfl rfl rfl rfl rfl ⟨rfl, rfl, rfl, rfl, rfl⟩ rfl rfl rfl rfl rfl (by kernel_rfl) Try.func6 (by kernel_rfl)
    (of_decide_eq_true (by kernel_rfl)) (by unfold Func.isWrapper; first | (rw [if_pos (by decide +kernel)]; kernel_rfl) | (rw [if_neg (by decide +kernel)]; exact ⟨rfl, rfl⟩))
    (fun os started H enc _ => lifted os started H enc)

end Go.Proofs.Ytmeicnhlehdboaa.lawProductOf
