/- FnTensionOf: for every code the law holds: the program's TensionOf answers as the model; with all heights one more, if that may be, it is the same; and over each ring it is together nothing. No condition. -/
import Derived.Test.YtmeicnhlehdboaaL1
import Derived.Test.YtmeicnhlehdboaaDZ
import Derived.Test.YtmeicnhlehdboaaJ3
import Derived.Test.YtmeicnhlehdboaaJ6
import Derived.Test.YtmeicnhlehdboaaU5
import Derived.Test.YtmeicnhlehdboaaU2
import Derived.Test.YtmeicnhlehdboaaX2
namespace Go.Proofs.Ytmeicnhlehdboaa.lawTensionOf
open Go.ChangeShapes Go.WideShapes Go.ChangeAt Go.RowKit Go.Deep Go.Joins

/-- all heights one more; may they be one more -/
def upH (hs : List Int) : List Int := hs.map fun h => h + 1
def fitsB (hs : List Int) (k : Nat) : Bool := (hs.take k).all fun h => decide (h < 40)
theorem fitsB_snoc (hs : List Int) (k : Nat) (hk : k < hs.length) : fitsB hs (k + 1) = (fitsB hs k && decide (hs[k] < 40)) := by
  unfold fitsB
  rw [List.take_succ_eq_append_getElem hk, List.all_append]
  simp
theorem upH_take (hs : List Int) (k : Nat) (hk : k < hs.length) : (upH hs).take (k + 1) = (upH hs).take k ++ [hs[k] + 1] := by
  unfold upH
  rw [List.take_succ_eq_append_getElem (by simpa using hk)]
  simp
theorem upH_lab {hs : List Int} {v : Int} (h : v.toNat < hs.length) : lab (upH hs) v = lab hs v + 1 := by
  simp [lab, upH, List.getD_eq_getElem?_getD, h]
/-- the tension of heights that are all one more -/
theorem tens_up {n : Int} {ps : List Pp} {hs : List Int} (h : tensB n ps hs = true) (hf : fitsB hs hs.length = true) : tensR n ps (upH hs) = tensR n ps hs := by
  have h' := h
  simp only [tensB, Bool.and_eq_true] at h'
  obtain ⟨hn, hr⟩ := h'
  obtain ⟨r1, r2⟩ := rowB_parts hr
  have hf' : ∀ x ∈ hs, x < 40 := fun x hx => by
    have := List.all_eq_true.1 hf x (by rw [List.take_length]; exact hx)
    simpa using this
  have h2 : tensB n ps (upH hs) = true := by
    simp only [tensB, hn, Bool.true_and, rowB, withinB, Bool.and_eq_true, decide_eq_true_eq, List.all_eq_true]
    refine ⟨by simpa [upH] using r1, fun x hx => ?_⟩
    obtain ⟨y, hy, rfl⟩ := List.mem_map.1 hx
    have := r2 y hy
    have := hf' y hy
    omega
  rw [tensR, tensR, if_pos h, if_pos h2]
  unfold tensL
  refine List.map_congr_left fun p hp => ?_
  obtain ⟨a0, a1, b0, b1, -⟩ := net_endsIn hn p hp
  rw [upH_lab (by omega), upH_lab (by omega)]
  omega

/-- over a ring tensions are together nothing -/
theorem ring_tens {n : Int} {ps : List Pp} {hs : List Int} {k : Int} (h : tensB n ps hs = true) (hb : signB n ps k = true) : prodB n ps (signsR n ps k) (tensR n ps hs) = true ∧ prodR n ps (signsR n ps k) (tensR n ps hs) = 0 := by
  have h' := h
  simp only [tensB, Bool.and_eq_true] at h'
  obtain ⟨hn, hr⟩ := h'
  obtain ⟨r1, r2⟩ := rowB_parts hr
  obtain ⟨⟨s1, -, -, s4⟩, s5⟩ := signsR_ring hb
  have ht : tensR n ps hs = tensL (lab hs) ps := by rw [tensR, if_pos h]
  have hl : ∀ v : Int, -40 ≤ lab hs v ∧ lab hs v ≤ 40 := fun v => by
    unfold lab
    rcases Nat.lt_or_ge v.toNat hs.length with hv | hv
    · rw [List.getD_eq_getElem?_getD, List.getElem?_eq_getElem hv]
      exact r2 _ (List.getElem_mem hv)
    · rw [List.getD_eq_getElem?_getD, List.getElem?_eq_none hv]; decide
  have hp : prodB n ps (signsR n ps k) (tensR n ps hs) = true := by
    rw [ht]
    simp only [prodB, hn, Bool.true_and, rowB, withinB, s1, tensL_len, decide_true, Bool.and_eq_true, List.all_eq_true, decide_eq_true_eq]
    refine ⟨fun x hx => by have := s5 x hx; omega, fun x hx => ?_⟩
    obtain ⟨p, -, rfl⟩ := List.mem_map.1 hx
    have h1 := hl p.to
    have h2 := hl p.fr
    omega
  refine ⟨hp, ?_⟩
  rw [prodR, if_pos hp, ht, prod_pot (lab hs) _ (net_ends' hn)]
  exact nodeSum_zero _ _ fun v hv => by rw [s4 v hv]; simp

set_option maxHeartbeats 4000000 in
set_option maxRecDepth 20000 in
theorem walk (v : Value) (n : Nat) (w : World) (h : ArgBytes w v n) :
    Calls Try.prog 5 #[v] w fun e w' => e = .returned (.bool true) ∧ Below w.heap.size w w' := by
  obtain ⟨A, c, rfl, hc1, hc2, -⟩ := id h
  unfold maxLen at hc2
  by_cases hbig : 1048576 < n
  · go_enter Try.func5, Try.ntmps5
    go_wp2
    go_ret
    exact ⟨rfl, by (repeat (first | (with_reducible assumption) | (with_reducible exact Below.refl _ _) | ((with_reducible refine Below.alloc ?_ ?hsz _); (case hsz => (first | omega | (simp; done) | (simp; omega) | (simp at *; omega)))) | ((with_reducible refine Below.setCell ?_ ?hsz _); (case hsz => (first | omega | (simp; done) | (simp; omega) | (simp at *; omega)))) | (with_reducible refine Below.drew ?_) | (with_reducible refine below_drewN ?_ _) | ((with_reducible refine Below.trans ?_ (Below.mono (by with_reducible assumption) ?hsz)); (case hsz => (first | omega | (simp; done) | (simp; omega) | (simp at *; omega))))))⟩
  go_enter Try.func5, Try.ntmps5
  go_wp2_with fail
  with_reducible refine (drawTensionOf_any _ n _ (h.keep (by (repeat (first | (with_reducible assumption) | (with_reducible exact Below.refl _ _) | ((with_reducible refine Below.alloc ?_ ?hsz _); (case hsz => (first | omega | (simp; done) | (simp; omega) | (simp at *; omega)))) | ((with_reducible refine Below.setCell ?_ ?hsz _); (case hsz => (first | omega | (simp; done) | (simp; omega) | (simp at *; omega)))) | (with_reducible refine Below.drew ?_) | (with_reducible refine below_drewN ?_ _) | ((with_reducible refine Below.trans ?_ (Below.mono (by with_reducible assumption) ?hsz)); (case hsz => (first | omega | (simp; done) | (simp; omega) | (simp at *; omega))))))))).mono ?_
  rintro e w1 ⟨z, ps, u, hs, t, rfl, hp, hx, hb1, hl8⟩
  have hBw1 : Below w.heap.size w w1 := by (repeat (first | (with_reducible assumption) | (with_reducible exact Below.refl _ _) | ((with_reducible refine Below.alloc ?_ ?hsz _); (case hsz => (first | omega | (simp; done) | (simp; omega) | (simp at *; omega)))) | ((with_reducible refine Below.setCell ?_ ?hsz _); (case hsz => (first | omega | (simp; done) | (simp; omega) | (simp at *; omega)))) | (with_reducible refine Below.drew ?_) | (with_reducible refine below_drewN ?_ _) | ((with_reducible refine Below.trans ?_ (Below.mono (by with_reducible assumption) ?hsz)); (case hsz => (first | omega | (simp; done) | (simp; omega) | (simp at *; omega))))))
  clear h hc1 hc2 hbig
  obtain ⟨A1, c1, rfl, hk1, hk2, hsm, -⟩ := hp.form
  unfold maxLen at hk2
  have bx1 : Box2 (w1.alloc (.cells #[.int .i64 z, .slice A1 ps.length c1] 25)) w1.heap.size (.int .i64 z) (.slice A1 ps.length c1) := Box2.new _ _ _ _
  have hB1 : Below w1.heap.size w1 (w1.alloc (.cells #[.int .i64 z, .slice A1 ps.length c1] 25)) := by (repeat (first | (with_reducible assumption) | (with_reducible exact Below.refl _ _) | ((with_reducible refine Below.alloc ?_ ?hsz _); (case hsz => (first | omega | (simp; done) | (simp; omega) | (simp at *; omega)))) | ((with_reducible refine Below.setCell ?_ ?hsz _); (case hsz => (first | omega | (simp; done) | (simp; omega) | (simp at *; omega)))) | (with_reducible refine Below.drew ?_) | (with_reducible refine below_drewN ?_ _) | ((with_reducible refine Below.trans ?_ (Below.mono (by with_reducible assumption) ?hsz)); (case hsz => (first | omega | (simp; done) | (simp; omega) | (simp at *; omega))))))
  obtain ⟨AX, cX, rfl, xk1, xk2, xk3, -⟩ := hx.form
  unfold maxLen at xk2
  go_wp2_with fail
  with_reducible refine (tensionOf_any z _ _ ps hs _ _ _ (hp.keep hB1) (hx.keep hB1)).mono ?_
  rintro e w2 ⟨sA, rfl, hL2, hnn⟩
  have bx2 := (bx1).keep hnn
  have hB2 : Below w1.heap.size w1 w2 := by (repeat (first | (with_reducible assumption) | (with_reducible exact Below.refl _ _) | ((with_reducible refine Below.alloc ?_ ?hsz _); (case hsz => (first | omega | (simp; done) | (simp; omega) | (simp at *; omega)))) | ((with_reducible refine Below.setCell ?_ ?hsz _); (case hsz => (first | omega | (simp; done) | (simp; omega) | (simp at *; omega)))) | (with_reducible refine Below.drew ?_) | (with_reducible refine below_drewN ?_ _) | ((with_reducible refine Below.trans ?_ (Below.mono (by with_reducible assumption) ?hsz)); (case hsz => (first | omega | (simp; done) | (simp; omega) | (simp at *; omega))))))
  have hbl := hnn
  clear hnn
  (try clear d0 d1 g0 g1)
  obtain ⟨bs, d0, d1, g0, g1⟩ := id bx2
  clear hbl
  obtain ⟨SA, sc, rfl, sk1, sk2, -, -⟩ := hL2.form
  go_wp2_with fail
  with_reducible refine (specTension_any z _ _ ps hs _ _ _ (hp.keep hB2) (hx.keep hB2)).mono ?_
  rintro e w3 ⟨sM, rfl, hM3, hnn⟩
  have bx3 := (bx2).keep hnn
  have hB3 : Below w1.heap.size w1 w3 := by (repeat (first | (with_reducible assumption) | (with_reducible exact Below.refl _ _) | ((with_reducible refine Below.alloc ?_ ?hsz _); (case hsz => (first | omega | (simp; done) | (simp; omega) | (simp at *; omega)))) | ((with_reducible refine Below.setCell ?_ ?hsz _); (case hsz => (first | omega | (simp; done) | (simp; omega) | (simp at *; omega)))) | (with_reducible refine Below.drew ?_) | (with_reducible refine below_drewN ?_ _) | ((with_reducible refine Below.trans ?_ (Below.mono (by with_reducible assumption) ?hsz)); (case hsz => (first | omega | (simp; done) | (simp; omega) | (simp at *; omega))))))
  have hbl := hnn
  clear hnn
  (try clear d0 d1 g0 g1)
  obtain ⟨bs, d0, d1, g0, g1⟩ := id bx3
  obtain ⟨MA, mc, rfl, mk1, mk2, -, -⟩ := hM3.form
  have hL3 := hL2.keep hbl
  clear hbl hL2
  obtain ⟨T, hT⟩ : ∃ T, tensR z ps hs = T := ⟨_, rfl⟩
  have HT := Lib.hid hT
  rw [hT] at hL3 hM3 sk1 mk1 ⊢
  clear hT
  go_wp2_with fail
  with_reducible refine (sameInts_any _ _ T T _ _ _ hL3 hM3).mono ?_
  rintro e w4 ⟨rfl, hnn⟩
  have bx4 := (bx3).keep hnn
  have hB4 : Below w1.heap.size w1 w4 := by (repeat (first | (with_reducible assumption) | (with_reducible exact Below.refl _ _) | ((with_reducible refine Below.alloc ?_ ?hsz _); (case hsz => (first | omega | (simp; done) | (simp; omega) | (simp at *; omega)))) | ((with_reducible refine Below.setCell ?_ ?hsz _); (case hsz => (first | omega | (simp; done) | (simp; omega) | (simp at *; omega)))) | (with_reducible refine Below.drew ?_) | (with_reducible refine below_drewN ?_ _) | ((with_reducible refine Below.trans ?_ (Below.mono (by with_reducible assumption) ?hsz)); (case hsz => (first | omega | (simp; done) | (simp; omega) | (simp at *; omega))))))
  have hb4 := ((Below.refl w3.heap.size w3)).trans (hnn.mono ((Below.refl w3.heap.size w3)).size)
  clear hnn
  (try clear d0 d1 g0 g1)
  obtain ⟨bs, d0, d1, g0, g1⟩ := id bx4
  have hL4 := hL3.keep hb4
  clear hM3 hL3 hb4
  have hdec : decide (T = T) = true := by simp
  rw [hdec]
  clear hdec
  unfold maxLen at sk2 mk2
  obtain ⟨Tn, hTn⟩ : ∃ Tn, T.length = Tn := ⟨_, rfl⟩
  have HTn := Lib.hid hTn
  rw [hTn] at sk1 mk1 hL4 ⊢
  clear hTn
  by_cases h0 : Tn = 0
  · have h1 : ((Tn : Int) == 0) = true := by simp [h0]
    clear h0
    go_wp2_with fail
    with_reducible refine (alive_any _).mono ?_
    rintro e w5 ⟨rfl, hnn⟩
    have bx5 := (bx4).keep hnn
    have hB5 : Below w1.heap.size w1 w5 := by (repeat (first | (with_reducible assumption) | (with_reducible exact Below.refl _ _) | ((with_reducible refine Below.alloc ?_ ?hsz _); (case hsz => (first | omega | (simp; done) | (simp; omega) | (simp at *; omega)))) | ((with_reducible refine Below.setCell ?_ ?hsz _); (case hsz => (first | omega | (simp; done) | (simp; omega) | (simp at *; omega)))) | (with_reducible refine Below.drew ?_) | (with_reducible refine below_drewN ?_ _) | ((with_reducible refine Below.trans ?_ (Below.mono (by with_reducible assumption) ?hsz)); (case hsz => (first | omega | (simp; done) | (simp; omega) | (simp at *; omega))))))
    clear hnn
    (try clear d0 d1 g0 g1)
    obtain ⟨bs, d0, d1, g0, g1⟩ := id bx5
    go_wp2
    (go_ret; exact ⟨rfl, hBw1.trans (Below.mono (by with_reducible assumption) hBw1.size)⟩)
  · have h1 : ((Tn : Int) == 0) = false := by rw [beq_eq_false_iff_ne]; omega
    have htb : tensB z ps hs = true := by
      cases hb : tensB z ps hs with
      | true => rfl
      | false =>
        have h2 := HT.out
        rw [tensR, if_neg (by rw [hb]; simp)] at h2
        have h3 := HTn.out
        rw [← h2] at h3
        exact absurd h3.symm h0
    have hn0 : netOkB z ps = true := by
      have := htb
      simp only [tensB, Bool.and_eq_true] at this
      exact this.1
    have hrow0 : rowB hs z (-40) 40 = true := by
      have := htb
      simp only [tensB, Bool.and_eq_true] at this
      exact this.2
    obtain ⟨q1, q2⟩ := rowB_parts hrow0
    obtain ⟨n2, n5, hl7, -⟩ := netOk_parts hn0
    have hs5 : hs.length ≤ 5 := by omega
    have HQ := Lib.hid q2
    have HUP := Lib.hid (fun (hf : fitsB hs hs.length = true) => (tens_up htb hf).trans HT.out)
    have HRT := Lib.hid (fun (k : Nat) (hb : signB z ps (k : Int) = true) => by
      have := ring_tens (k := (k : Int)) htb hb
      rw [HT.out] at this
      exact this)
    obtain ⟨j0, hj0, hy0, hy1, hy2⟩ := info_parts int_info
    have HZ4 : Hid (w1.heap.size < w4.heap.size) := Lib.hid (by have := bx4.1; omega)
    have hR0 : Row (w4.alloc (.cells #[] 3)) w4.heap.size w4.heap.size 0 0 ((upH hs).take 0) :=
      ⟨World.ownsRow_lit (e := 3) (base := w4.heap.size) (size := 1) w4 #[] 0 (Nat.le_refl _) (by simp [maxLen]) rfl, by simp [small]⟩
    have bx5 := bx4.keep ((Below.refl w4.heap.size w4).alloc (Nat.le_refl _) (.cells #[] 3))
    have hB5 : Below w1.heap.size w1 (w4.alloc (.cells #[] 3)) := by (repeat (first | (with_reducible assumption) | (with_reducible exact Below.refl _ _) | ((with_reducible refine Below.alloc ?_ ?hsz _); (case hsz => (first | omega | (simp; done) | (simp; omega) | (simp at *; omega)))) | ((with_reducible refine Below.setCell ?_ ?hsz _); (case hsz => (first | omega | (simp; done) | (simp; omega) | (simp at *; omega)))) | (with_reducible refine Below.drew ?_) | (with_reducible refine below_drewN ?_ _) | ((with_reducible refine Below.trans ?_ (Below.mono (by with_reducible assumption) ?hsz)); (case hsz => (first | omega | (simp; done) | (simp; omega) | (simp at *; omega))))))
    clear htb hn0 hrow0 q1 q2 n2 n5 h0
    go_wp2
    go_loopw [8, 6, 7] (fun a b f wr => ∃ k g1 c1' : Nat, k ≤ hs.length ∧ a = .int .i64 (k : Int) ∧ b = .slice (some ⟨g1, 0, none⟩) k c1' ∧ f = .bool (fitsB hs k) ∧ Row wr w4.heap.size g1 k c1' ((upH hs).take k) ∧ Box2 wr w1.heap.size (.int .i64 z) (.slice A1 ps.length c1) ∧ Below w1.heap.size w1 wr ∧ Below w4.heap.size w4 wr) (fun a _ _ _ => hs.length - (intOf a).toNat)
    case atStart => exact ⟨0, w4.heap.size, 0, by omega, rfl, rfl, by simp [fitsB], hR0, bx5, hB5, by (repeat (first | (with_reducible assumption) | (with_reducible exact Below.refl _ _) | ((with_reducible refine Below.alloc ?_ ?hsz _); (case hsz => (first | omega | (simp; done) | (simp; omega) | (simp at *; omega)))) | ((with_reducible refine Below.setCell ?_ ?hsz _); (case hsz => (first | omega | (simp; done) | (simp; omega) | (simp at *; omega)))) | (with_reducible refine Below.drew ?_) | (with_reducible refine below_drewN ?_ _) | ((with_reducible refine Below.trans ?_ (Below.mono (by with_reducible assumption) ?hsz)); (case hsz => (first | omega | (simp; done) | (simp; omega) | (simp at *; omega))))))⟩
    case round =>
      clear hR0 bx5 hB5 d0 d1 g0 g1 bs
      obtain ⟨k, gh, ch, hk, rfl, rfl, rfl, hR, bx, hB, hC⟩ := hrel
      obtain ⟨bs, d0, d1, g0, g1⟩ := id bx
      have hown := hR.1
      have hcap := hR.capd
      unfold maxLen at hcap
      have hrow : ∀ q, (Value.slice (some ⟨gh, 0, none⟩) k ch).ownBlock = some q → w4.heap.size ≤ q := fun q hq => (hown.lt q hq).1
      have hz4 := HZ4.out
      have hBs := hB.size
      by_cases hlt : k < hs.length
      · obtain ⟨gx, ex, -, hgx2, cx, -⟩ := hx.cellAt hB k hlt
        subst ex
        have Hu := Lib.hid (upH_take hs k hlt)
        have Hf := Lib.hid (fitsB_snoc hs k hlt)
        obtain ⟨x0, x1⟩ := HQ.out _ (List.getElem_mem hlt)
        obtain ⟨fb, hfb⟩ : ∃ fb, fitsB hs k = fb := ⟨_, rfl⟩
        rw [hfb] at Hf ⊢
        obtain ⟨x, hxk⟩ : ∃ x, hs[k] = x := ⟨_, rfl⟩
        rw [hxk] at cx Hf Hu x0 x1
        have hgxr : gx < wr.heap.size := by omega
        clear hfb
        cases fb with
        | false =>
          go_wp2_with (first
            | (at_builtin
               go_must (refine wpList_append_lies _ rfl _ _ 27 rfl w4.heap.size 3 j0 _ 1 8 Try.underlying27 hj0 hy0 hy1 hy2 rfl (by omega) _ k _ rfl (hown.alloc _) ⟨wr.heap.size, 0, none⟩ 1 1 [.int .i64 (x + 1)] rfl rfl (World.news_of_block (cs := #[.int .i64 (x + 1)]) (t := 3) (fr := (0, 0)) (heap_alloc_new _ _)) (by simp [Value.oneCell']) (by omega) (by unfold maxLen; omega) (by omega) (by have := hR.lt; simp; omega) _ rfl ?_)
               intro g2 k2 w7 hown7 hgr7 hat7 hlt7
               have bx7 := (bx.keep ((Below.refl _ _).alloc (Nat.le_refl _) _)).grown hgr7 (by intro h; have := hrow _ h.symm; omega)
               have hW7 : Below w4.heap.size (wr.alloc (.cells #[.int .i64 (x + 1)] 3)) w7 := below_grow hgr7 (by have := hC.size; simp; omega) (fun q hq => hrow q hq)
               have hB7 : Below w1.heap.size w1 w7 := (hB.alloc hBs _).trans (hW7.mono (by omega))
               have hC7 : Below w4.heap.size w4 w7 := (hC.alloc hC.size _).trans hW7
               have hR8 : Row w7 w4.heap.size g2 (k + 1) k2 ((upH hs).take (k + 1)) := ⟨by rw [Hu.out, List.map_append]; exact hown7, by unfold small; omega⟩
               obtain ⟨gx', ex', -, hgx2', cx7, -⟩ := hx.cellAt hB7 k hlt
               have egx : gx = gx' := by injection ex' with ex'; injection ex'
               subst egx
               rw [hxk] at cx7
               have hgx7 : gx < w7.heap.size := by have := hB7.size; omega
               clear hown7 hgr7 hat7 hlt7 bx hown hrow hR))
          (try go_wp2)
          go_roundw
          case rel => exact ⟨k + 1, g2, k2, by omega, by go_num, rfl, by rw [Hf.out]; rfl, hR8, bx7, hB7, hC7⟩
          case measure => simp [intOf]; omega
        | true =>
          go_wp2_with (first
            | (at_builtin
               go_must (refine wpList_append_lies _ rfl _ _ 27 rfl w4.heap.size 3 j0 _ 1 8 Try.underlying27 hj0 hy0 hy1 hy2 rfl (by omega) _ k _ rfl (hown.alloc _) ⟨wr.heap.size, 0, none⟩ 1 1 [.int .i64 (x + 1)] rfl rfl (World.news_of_block (cs := #[.int .i64 (x + 1)]) (t := 3) (fr := (0, 0)) (heap_alloc_new _ _)) (by simp [Value.oneCell']) (by omega) (by unfold maxLen; omega) (by omega) (by have := hR.lt; simp; omega) _ rfl ?_)
               intro g2 k2 w7 hown7 hgr7 hat7 hlt7
               have bx7 := (bx.keep ((Below.refl _ _).alloc (Nat.le_refl _) _)).grown hgr7 (by intro h; have := hrow _ h.symm; omega)
               have hW7 : Below w4.heap.size (wr.alloc (.cells #[.int .i64 (x + 1)] 3)) w7 := below_grow hgr7 (by have := hC.size; simp; omega) (fun q hq => hrow q hq)
               have hB7 : Below w1.heap.size w1 w7 := (hB.alloc hBs _).trans (hW7.mono (by omega))
               have hC7 : Below w4.heap.size w4 w7 := (hC.alloc hC.size _).trans hW7
               have hR8 : Row w7 w4.heap.size g2 (k + 1) k2 ((upH hs).take (k + 1)) := ⟨by rw [Hu.out, List.map_append]; exact hown7, by unfold small; omega⟩
               obtain ⟨gx', ex', -, hgx2', cx7, -⟩ := hx.cellAt hB7 k hlt
               have egx : gx = gx' := by injection ex' with ex'; injection ex'
               subst egx
               rw [hxk] at cx7
               have hgx7 : gx < w7.heap.size := by have := hB7.size; omega
               clear hown7 hgr7 hat7 hlt7 bx hown hrow hR))
          (try go_wp2)
          go_roundw
          case rel => exact ⟨k + 1, g2, k2, by omega, by go_num, rfl, by rw [Hf.out]; rfl, hR8, bx7, hB7, hC7⟩
          case measure => simp [intOf]; omega
      · have hkk : k = hs.length := by omega
        have hup : Ints wr w4.heap.size (.slice (some ⟨gh, 0, none⟩) k ch) (upH hs) := by
          have h1 := hR.ints
          rw [hkk, List.take_of_length_le (by simp [upH])] at h1
          rw [hkk]
          exact h1
        obtain ⟨fb, hfb⟩ : ∃ fb, fitsB hs k = fb := ⟨_, rfl⟩
        rw [hfb]
        have HU : Hid (fb = true → tensR z ps (upH hs) = T) := Lib.hid (fun e => HUP.out (by rw [hkk] at hfb; rw [hfb]; exact e))
        clear hR hfb hown hrow hcap hkk
        obtain ⟨W5, hW5⟩ : ∃ W : World, W = wr := ⟨_, rfl⟩
        subst hW5
        go_wp2
        go_loopw [9] (fun a w' => ∃ i : Nat, i ≤ ps.length ∧ a = .int .i64 (i : Int) ∧ Below W5.heap.size W5 w') (fun a _ => ps.length - (intOf a).toNat)
        case atStart => exact ⟨0, by omega, rfl, Below.refl _ _⟩
        case round =>
          clear d0 d1 g0 g1 bs
          obtain ⟨i, hi, rfl, hD⟩ := hrel
          have bxi := bx.keep hD
          have hBi : Below w1.heap.size w1 wr := hB.trans (hD.mono hB.size)
          have hCi : Below w4.heap.size w4 wr := hC.trans (hD.mono hC.size)
          obtain ⟨bs, d0, d1, g0, g1⟩ := id bxi
          by_cases hil : i < ps.length
          · go_wp2_with fail
            with_reducible refine (ringSigns_any z (i : Int) _ ps _ _ (hp.keep hBi)).mono ?_
            rintro e w6 ⟨r6, rfl, hr6, hnn⟩
            have bx6 := bxi.keep hnn
            have hB6 : Below w1.heap.size w1 w6 := hBi.trans (hnn.mono hBi.size)
            have hC6 : Below w4.heap.size w4 w6 := hCi.trans (hnn.mono hCi.size)
            have hD6 : Below W5.heap.size W5 w6 := hD.trans (hnn.mono hD.size)
            clear hnn d0 d1 g0 g1
            obtain ⟨bs, d0, d1, g0, g1⟩ := id bx6
            have HS := Lib.hid (HRT.out i)
            generalize signsR z ps (i : Int) = S at *
            obtain ⟨GA, gc, rfl, gk1, gk2, -, -⟩ := hr6.form
            go_wp2_with fail
            with_reducible refine (productOf_any z _ _ _ ps S T _ _ _ _ (hp.keep hB6) hr6 (hL4.keep hC6)).mono ?_
            rintro e w7 ⟨rfl, hnn⟩
            have hD7 : Below W5.heap.size W5 w7 := hD6.trans (hnn.mono hD6.size)
            clear hnn
            cases hsb : signB z ps (i : Int) with
            | false =>
              generalize prodR z ps S T = pr
              generalize prodB z ps S T = pb
              go_wp2
              go_roundw
              case rel => exact ⟨i + 1, by omega, by go_num, hD7⟩
              case measure => simp [intOf]; omega
            | true =>
              obtain ⟨hpb, hpr⟩ := HS.out hsb
              rw [hpb, hpr]
              clear hpb hpr
              go_wp2
              go_roundw
              case rel => exact ⟨i + 1, by omega, by go_num, hD7⟩
              case measure => simp [intOf]; omega
          · cases fb with
            | false =>
              go_wp2
              (go_ret; exact ⟨rfl, hBw1.trans (Below.mono (by with_reducible assumption) hBw1.size)⟩)
            | true =>
              have HU' := Lib.hid (HU.out rfl)
              go_wp2_with fail
              with_reducible refine (tensionOf_any z _ _ ps (upH hs) _ _ _ (hp.keep hBi) (hup.keep hD)).mono ?_
              rintro e w6 ⟨r6, rfl, hr6, hnn⟩
              rw [HU'.out] at hr6
              have hB6 : Below w1.heap.size w1 w6 := hBi.trans (hnn.mono hBi.size)
              have hC6 : Below w4.heap.size w4 w6 := hCi.trans (hnn.mono hCi.size)
              clear hnn d0 d1 g0 g1
              obtain ⟨GA, gc, rfl, gk1, gk2, -, -⟩ := hr6.form
              go_wp2_with fail
              with_reducible refine (sameInts_any _ _ T T _ _ _ hr6 (hL4.keep hC6)).mono ?_
              rintro e w7 ⟨rfl, hnn⟩
              have hB7 : Below w1.heap.size w1 w7 := hB6.trans (hnn.mono hB6.size)
              have hdec : decide (T = T) = true := by simp
              rw [hdec]
              go_wp2
              (go_ret; exact ⟨rfl, hBw1.trans (Below.mono (by with_reducible assumption) hBw1.size)⟩)

set_option maxRecDepth 100000 in
theorem contract (H : Type) (enc : TypeId × Value → H) (W : World) (base : Nat) (args : Array Value) (ds gs : List (DataW H)) (before : List MemPlace)
    (hval : ∀ (j : Nat) t v, Try.f5.params[j]? = some t → args[j]? = some v → Value.okWide Try.prog W .any base t v)
    (hW : DataW.Whole enc Try.prog Try.f5.params.toList Rows.fnTensionOfSpec.vars false W args.toList ds gs before) :
    Calls Try.prog 5 args W fun e W' => ∃ v, e = .returned v ∧ Rows.fnTensionOfSpec.post enc Try.prog Try.f5 false true false false W args v W' := by
  have hW' := hW
  obtain ⟨p, q, hA0, hV, rfl, hfz, hnd⟩ := hW
  have hA : DataW.TrodAll enc Try.prog W 0 (fun _ => true) true Try.f5.params.toList args.toList ds p := hA0
  rw [Try.params5] at hA hval
  obtain ⟨u0, us0, d0, ds0, p0, q0, hargs, rfl, rfl, g0, k0⟩ := trodAll_cons hA
  obtain ⟨rfl, rfl, rfl⟩ := trodAll_nil k0
  obtain rfl : args = #[u0] := by cases args; simp_all
  obtain ⟨rfl, rfl⟩ := trodVars_none hV
  obtain ⟨m0, e0⟩ := g0
  obtain ⟨s0, l0, f0, hh0⟩ := open_arg_bytes e0
  have f0' := one_of_cells Try.underlying22 (hval 0 _ _ rfl rfl) f0
  subst f0'
  refine (walk _ l0 W hh0).mono fun e W' ⟨he, hb⟩ => ?_
  subst he
  exact ⟨_, rfl, law_post Try.kids Try.full (by rw [Try.params5]; decide) rfl rfl Try.underlying4 hW' rfl rfl rfl hb⟩

set_option maxRecDepth 100000 in
theorem lifted (os : Os) (started : os.Started) (H : Type) (enc : TypeId × Value → H) :
    ReturnsInHanded {} Try.checked os 5 .any (Rows.fnTensionOfSpec.pre6 enc Try.prog Try.f5 Rows.fnTensionOfRow.domain false) (Rows.fnTensionOfSpec.post enc Try.prog Try.f5 false true false false) := by
  refine returnsInHanded_of_change (C := Try.checked) Try.own started (by kernel_rfl) Try.func5
    (ChangeSpec.witness6 (enc := enc) (C := Try.checked) false ⟨#[], #[.slice none 0 0], []⟩ 8 (by kernel_rfl) (by kernel_rfl) (by kernel_rfl) (by kernel_rfl)) ?_
  intro W base args ds gs before hval0 hW _ _
  exact contract H enc W base args ds gs before hval0 hW

theorem proved : Rows.FnTensionOfSaid :=
  OpenClaim.holds_of_wide 5 Try.f5 rfl rfl rfl rfl rfl rfl rfl ⟨rfl, rfl, rfl, rfl, rfl⟩ rfl rfl rfl rfl rfl (by kernel_rfl) Try.func5 (by kernel_rfl)
    (of_decide_eq_true (by kernel_rfl)) (by unfold Func.isWrapper; first | (rw [if_pos (by decide +kernel)]; kernel_rfl) | (rw [if_neg (by decide +kernel)]; exact ⟨rfl, rfl⟩))
    (fun os started H enc _ => lifted os started H enc)

end Go.Proofs.Ytmeicnhlehdboaa.lawTensionOf
