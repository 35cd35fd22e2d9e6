/- FnSideTension: for every code the law holds: with the height 1 for the nodes of a side, and 0 for the others, the product of the flow and the tension is what goes over from the side, taken away from 0. No condition. -/
import Derived.Test.YtmeicnhlehdboaaL2
import Derived.Test.YtmeicnhlehdboaaMG
import Derived.Test.YtmeicnhlehdboaaJ3
import Derived.Test.YtmeicnhlehdboaaU2
import Derived.Test.YtmeicnhlehdboaaW8
import Derived.Test.YtmeicnhlehdboaaS2
import Derived.Test.YtmeicnhlehdboaaS6
import Derived.Test.YtmeicnhlehdboaaF1
import Derived.Deep.AppendLies
namespace Go.Proofs.Ytmeicnhlehdboaa.lawSideTension
open Go.ChangeShapes Go.WideShapes Go.ChangeAt Go.RowKit Go.Deep Go.Joins

def bitH (s : Int) (v : Int) : Int := if bitB s v = true then 1 else 0
/-- the heights of a side: 1 within, 0 without -/
def sideH (n : Nat) (s : Int) : List Int := (List.range n).map fun k : Nat => bitH s k
theorem sideH_len (n : Nat) (s : Int) : (sideH n s).length = n := by simp [sideH]
theorem sideH_take (n k : Nat) (s : Int) (h : k < n) : (sideH n s).take (k + 1) = (sideH n s).take k ++ [bitH s k] := by
  rw [List.take_succ_eq_append_getElem (by rw [sideH_len]; exact h)]
  simp [sideH]
theorem sideH_lab {n : Nat} {s v : Int} (h0 : 0 ≤ v) (h1 : v < n) : lab (sideH n s) v = bitH s v := by
  have h : v.toNat < n := by omega
  have e : ((v.toNat : Nat) : Int) = v := by omega
  simp only [lab, sideH, List.getD_eq_getElem?_getD, List.getElem?_map, List.getElem?_range h, Option.map_some, Option.getD_some, e]
theorem bit_rem : ∀ (s : Fin 32) (k : Fin 5), (s.val : Int) / 2 ^ k.val % 2 = bitH (s.val : Int) (k.val : Int) := by decide +kernel
theorem sideH_row (n : Nat) (s : Int) : rowB (sideH n s) (n : Int) (-40) 40 = true := by
  simp only [rowB, withinB, sideH_len, decide_true, Bool.true_and, List.all_eq_true, Bool.and_eq_true, decide_eq_true_eq]
  intro x hx
  obtain ⟨k, -, rfl⟩ := List.mem_map.1 hx
  unfold bitH
  split <;> omega
theorem side_prod {n : Int} {ps : List Pp} {xs : List Int} {s : Int} (hn : netOkB n ps = true) : prodI xs (tensL (lab (sideH n.toNat s)) ps) = -across s ps xs := by
  have hE := net_ends' hn
  have e : tensL (lab (sideH n.toNat s)) ps = tensL (bitH s) ps := by
    unfold tensL
    refine List.map_congr_left fun p hp => ?_
    obtain ⟨a0, a1, b0, b1, -⟩ := hE p hp
    rw [sideH_lab a0 a1, sideH_lab b0 b1]
  rw [e, prod_pot (bitH s) xs hE]
  have h := across_exc xs hn (s := s)
  have e2 : nodeSum n.toNat (fun v => bitH s v * exc v ps xs) = sideExc n.toNat s ps xs := nodeSum_congr fun v _ => by
    unfold bitH
    split <;> simp
  rw [e2]
  omega

/-- the tensions of a side are 1, 0 or less by 1 -/
theorem side_tens_row {n : Int} {ps : List Pp} {s : Int} : rowB (tensL (lab (sideH n.toNat s)) ps) (ps.length : Int) (-80) 80 = true := by
  simp only [rowB, withinB, tensL_len, decide_true, Bool.true_and, List.all_eq_true, Bool.and_eq_true, decide_eq_true_eq]
  intro x hx
  obtain ⟨p, -, rfl⟩ := List.mem_map.1 hx
  have h : ∀ v : Int, 0 ≤ lab (sideH n.toNat s) v ∧ lab (sideH n.toNat s) v ≤ 1 := fun v => by
    unfold lab
    rcases Nat.lt_or_ge v.toNat n.toNat with hv | hv
    · simp only [sideH, List.getD_eq_getElem?_getD, List.getElem?_map, List.getElem?_range hv, Option.map_some, Option.getD_some]
      unfold bitH
      split <;> omega
    · rw [List.getD_eq_getElem?_getD, List.getElem?_eq_none (by rw [sideH_len]; exact hv)]; decide
  have h1 := h p.to
  have h2 := h p.fr
  omega
theorem flow_row {n : Int} {ps : List Pp} {xs : List Int} (h : flowOkB n ps xs = true) : rowB xs (ps.length : Int) (-80) 80 = true := by
  obtain ⟨-, h2, h3⟩ := flowOk_parts h
  simp only [rowB, withinB, h2, decide_true, Bool.true_and, List.all_eq_true, Bool.and_eq_true, decide_eq_true_eq]
  intro x hx
  have := h3 x hx
  omega
theorem acr_yes {n : Int} {ps : List Pp} {xs : List Int} {s : Int} (h : flowOkB n ps xs = true) (h1 : sideB n ps s = true) : (acrossAt n ps xs s).1 = across s ps xs ∧ (acrossAt n ps xs s).2 = true := by simp [acrossAt, h, h1]
theorem acr_no {n : Int} {ps : List Pp} {xs : List Int} {s : Int} (h : ¬ (flowOkB n ps xs = true ∧ sideB n ps s = true)) : (acrossAt n ps xs s).1 = 0 ∧ (acrossAt n ps xs s).2 = false := by simp only [acrossAt, if_neg h]; exact ⟨trivial, trivial⟩

/-- what the operations yield -/
def stV (N B : Nat) (sv fv hv : Value) (m : Int) (L : List Int) : Nat → Value → World → Prop
  | 0, x, _ => x = .agg #[.int .i64 (N : Int), sv]
  | 1, x, _ => x = fv
  | 2, x, _ => x = .agg #[.int .i64 (N : Int), sv]
  | 3, x, _ => x = hv
  | 4, x, w => Ints w B x L
  | 5, x, _ => x = .tuple #[.int .i64 m, .bool true]
  | 6, x, _ => x = .tuple #[.int .i64 m, .bool true]
  | 7, x, _ => x = .int .i64 m
  | 8, x, _ => x = .bool true
  | 9, x, _ => x = .int .i64 m
  | 10, x, _ => x = .bool true
  | _, _, _ => True
theorem stV_keep {N B : Nat} {sv fv hv : Value} {m : Int} {L : List Int} {x : Value} {k' : Nat} {w w' : World} (hb : Below w.heap.size w w') (h : stV N B sv fv hv m L k' x w) : stV N B sv fv hv m L k' x w' := by
  revert h
  unfold stV
  split <;> intro h <;> first | exact h | exact h.keep hb

set_option maxHeartbeats 4000000 in
set_option maxRecDepth 20000 in
theorem walk (v : Value) (n : Nat) (w : World) (h : ArgBytes w v n) :
    Calls Try.prog 9 #[v] w fun e w' => e = .returned (.bool true) ∧ Below w.heap.size w w' := by
  obtain ⟨A, c, rfl, hc1, hc2, -⟩ := id h
  unfold maxLen at hc2
  by_cases hbig : 1048576 < n
  · go_enter Try.func9, Try.ntmps9
    go_wp2
    go_ret
    exact ⟨rfl, by (repeat (first | (with_reducible assumption) | (with_reducible exact Below.refl _ _) | ((with_reducible refine Below.alloc ?_ ?hsz _); (case hsz => (first | omega | (simp; done) | (simp; omega) | (simp at *; omega)))) | ((with_reducible refine Below.setCell ?_ ?hsz _); (case hsz => (first | omega | (simp; done) | (simp; omega) | (simp at *; omega)))) | (with_reducible refine Below.drew ?_) | (with_reducible refine below_drewN ?_ _) | ((with_reducible refine Below.trans ?_ (Below.mono (by with_reducible assumption) ?hsz)); (case hsz => (first | omega | (simp; done) | (simp; omega) | (simp at *; omega))))))⟩
  go_enter Try.func9, Try.ntmps9
  go_wp2_with fail
  with_reducible refine (drawAcrossOf_any _ n _ (h.keep (by (repeat (first | (with_reducible assumption) | (with_reducible exact Below.refl _ _) | ((with_reducible refine Below.alloc ?_ ?hsz _); (case hsz => (first | omega | (simp; done) | (simp; omega) | (simp at *; omega)))) | ((with_reducible refine Below.setCell ?_ ?hsz _); (case hsz => (first | omega | (simp; done) | (simp; omega) | (simp at *; omega)))) | (with_reducible refine Below.drew ?_) | (with_reducible refine below_drewN ?_ _) | ((with_reducible refine Below.trans ?_ (Below.mono (by with_reducible assumption) ?hsz)); (case hsz => (first | omega | (simp; done) | (simp; omega) | (simp at *; omega))))))))).mono ?_
  rintro e w1 ⟨z, ps, u, xs, t, i, rfl, hp, hx, hb1, hl8, hz1, hz6⟩
  have hBw1 : Below w.heap.size w w1 := by (repeat (first | (with_reducible assumption) | (with_reducible exact Below.refl _ _) | ((with_reducible refine Below.alloc ?_ ?hsz _); (case hsz => (first | omega | (simp; done) | (simp; omega) | (simp at *; omega)))) | ((with_reducible refine Below.setCell ?_ ?hsz _); (case hsz => (first | omega | (simp; done) | (simp; omega) | (simp at *; omega)))) | (with_reducible refine Below.drew ?_) | (with_reducible refine below_drewN ?_ _) | ((with_reducible refine Below.trans ?_ (Below.mono (by with_reducible assumption) ?hsz)); (case hsz => (first | omega | (simp; done) | (simp; omega) | (simp at *; omega))))))
  clear h hc1 hc2 hbig
  obtain ⟨A1, c1, rfl, hk1, hk2, hsm, -⟩ := hp.form
  unfold maxLen at hk2
  have bx1 : Box2 (w1.alloc (.cells #[.int .i64 z, .slice A1 ps.length c1] 25)) w1.heap.size (.int .i64 z) (.slice A1 ps.length c1) := Box2.new _ _ _ _
  have hB1 : Below w1.heap.size w1 (w1.alloc (.cells #[.int .i64 z, .slice A1 ps.length c1] 25)) := by (repeat (first | (with_reducible assumption) | (with_reducible exact Below.refl _ _) | ((with_reducible refine Below.alloc ?_ ?hsz _); (case hsz => (first | omega | (simp; done) | (simp; omega) | (simp at *; omega)))) | ((with_reducible refine Below.setCell ?_ ?hsz _); (case hsz => (first | omega | (simp; done) | (simp; omega) | (simp at *; omega)))) | (with_reducible refine Below.drew ?_) | (with_reducible refine below_drewN ?_ _) | ((with_reducible refine Below.trans ?_ (Below.mono (by with_reducible assumption) ?hsz)); (case hsz => (first | omega | (simp; done) | (simp; omega) | (simp at *; omega))))))
  go_wp2_with fail
  with_reducible refine (acrossOf_any z i _ _ ps xs _ _ _ (hp.keep hB1) (hx.keep hB1)).mono ?_
  rintro e w2 ⟨rfl, hnn⟩
  have bx2 := (bx1).keep hnn
  have hB2 : Below w1.heap.size w1 w2 := by (repeat (first | (with_reducible assumption) | (with_reducible exact Below.refl _ _) | ((with_reducible refine Below.alloc ?_ ?hsz _); (case hsz => (first | omega | (simp; done) | (simp; omega) | (simp at *; omega)))) | ((with_reducible refine Below.setCell ?_ ?hsz _); (case hsz => (first | omega | (simp; done) | (simp; omega) | (simp at *; omega)))) | (with_reducible refine Below.drew ?_) | (with_reducible refine below_drewN ?_ _) | ((with_reducible refine Below.trans ?_ (Below.mono (by with_reducible assumption) ?hsz)); (case hsz => (first | omega | (simp; done) | (simp; omega) | (simp at *; omega))))))
  clear hnn
  (try clear d0 d1 g0 g1)
  obtain ⟨bs, d0, d1, g0, g1⟩ := id bx2
  cases hf : flowOkB z ps xs with
  | false =>
    obtain ⟨a1, a2⟩ := acr_no (n := z) (ps := ps) (xs := xs) (s := i) (fun h => by rw [hf] at h; cases h.1)
    rw [a1, a2]
    go_wp2_with fail
    with_reducible refine (specFlowOk_any z _ _ ps xs _ _ _ (hp.keep hB2) (hx.keep hB2)).mono ?_
    rintro e w3 ⟨rfl, hnn⟩
    have bx3 := (bx2).keep hnn
    have hB3 : Below w1.heap.size w1 w3 := by (repeat (first | (with_reducible assumption) | (with_reducible exact Below.refl _ _) | ((with_reducible refine Below.alloc ?_ ?hsz _); (case hsz => (first | omega | (simp; done) | (simp; omega) | (simp at *; omega)))) | ((with_reducible refine Below.setCell ?_ ?hsz _); (case hsz => (first | omega | (simp; done) | (simp; omega) | (simp at *; omega)))) | (with_reducible refine Below.drew ?_) | (with_reducible refine below_drewN ?_ _) | ((with_reducible refine Below.trans ?_ (Below.mono (by with_reducible assumption) ?hsz)); (case hsz => (first | omega | (simp; done) | (simp; omega) | (simp at *; omega))))))
    clear hnn
    (try clear d0 d1 g0 g1)
    obtain ⟨bs, d0, d1, g0, g1⟩ := id bx3
    go_wp2
    (go_ret; exact ⟨rfl, hBw1.trans (Below.mono (by with_reducible assumption) hBw1.size)⟩)
  | true =>
    cases hs : sideB z ps i with
    | false =>
      obtain ⟨a1, a2⟩ := acr_no (n := z) (ps := ps) (xs := xs) (s := i) (fun h => by rw [hs] at h; cases h.2)
      rw [a1, a2]
      go_wp2_with fail
      with_reducible refine (specFlowOk_any z _ _ ps xs _ _ _ (hp.keep hB2) (hx.keep hB2)).mono ?_
      rintro e w3 ⟨rfl, hnn⟩
      have bx3 := (bx2).keep hnn
      have hB3 : Below w1.heap.size w1 w3 := by (repeat (first | (with_reducible assumption) | (with_reducible exact Below.refl _ _) | ((with_reducible refine Below.alloc ?_ ?hsz _); (case hsz => (first | omega | (simp; done) | (simp; omega) | (simp at *; omega)))) | ((with_reducible refine Below.setCell ?_ ?hsz _); (case hsz => (first | omega | (simp; done) | (simp; omega) | (simp at *; omega)))) | (with_reducible refine Below.drew ?_) | (with_reducible refine below_drewN ?_ _) | ((with_reducible refine Below.trans ?_ (Below.mono (by with_reducible assumption) ?hsz)); (case hsz => (first | omega | (simp; done) | (simp; omega) | (simp at *; omega))))))
      clear hnn
      (try clear d0 d1 g0 g1)
      obtain ⟨bs, d0, d1, g0, g1⟩ := id bx3
      go_wp2_with fail
      with_reducible refine (specSideOk_any z i _ ps _ _ (hp.keep hB3)).mono ?_
      rintro e w4 ⟨rfl, hnn⟩
      have bx4 := (bx3).keep hnn
      have hB4 : Below w1.heap.size w1 w4 := by (repeat (first | (with_reducible assumption) | (with_reducible exact Below.refl _ _) | ((with_reducible refine Below.alloc ?_ ?hsz _); (case hsz => (first | omega | (simp; done) | (simp; omega) | (simp at *; omega)))) | ((with_reducible refine Below.setCell ?_ ?hsz _); (case hsz => (first | omega | (simp; done) | (simp; omega) | (simp at *; omega)))) | (with_reducible refine Below.drew ?_) | (with_reducible refine below_drewN ?_ _) | ((with_reducible refine Below.trans ?_ (Below.mono (by with_reducible assumption) ?hsz)); (case hsz => (first | omega | (simp; done) | (simp; omega) | (simp at *; omega))))))
      clear hnn
      (try clear d0 d1 g0 g1)
      obtain ⟨bs, d0, d1, g0, g1⟩ := id bx4
      go_wp2
      (go_ret; exact ⟨rfl, hBw1.trans (Below.mono (by with_reducible assumption) hBw1.size)⟩)
    | true =>
      obtain ⟨a1, a2⟩ := acr_yes hf hs
      obtain ⟨hnok, z0, z5, i0, i1⟩ := side_all hs
      have hall := (flowOk_parts hf).2.2
      have hab := across_bd i ps xs hall
      obtain ⟨n2, -, hl7, -⟩ := netOk_parts hnok
      obtain ⟨N, rfl⟩ := Int.eq_ofNat_of_zero_le (show 0 ≤ z by omega)
      have HP := Lib.hid (side_prod (xs := xs) (s := i) hnok)
      have HTB : Hid (tensR (N : Int) ps (sideH N i) = tensL (lab (sideH N i)) ps) := Lib.hid (by rw [tensR, if_pos (by simp [tensB, hnok, sideH_row])])
      have HPB : Hid (prodB (N : Int) ps xs (tensL (lab (sideH N i)) ps) = true ∧ prodR (N : Int) ps xs (tensL (lab (sideH N i)) ps) = -across i ps xs) := Lib.hid (by
        have h1 : prodB (N : Int) ps xs (tensL (lab (sideH N i)) ps) = true := by
          have := side_tens_row (n := (N : Int)) (ps := ps) (s := i)
          rw [Int.toNat_natCast] at this
          simp [prodB, hnok, flow_row hf, this]
        have h2 := HP.out
        rw [Int.toNat_natCast] at h2
        exact ⟨h1, by rw [prodR, if_pos h1, h2]⟩)
      rw [a1, a2]
      obtain ⟨ac, hac⟩ : ∃ ac, across i ps xs = ac := ⟨_, rfl⟩
      rw [hac] at hab HPB ⊢
      have hac1 : -280 ≤ ac := by omega
      have hac2 : ac ≤ 280 := by omega
      go_wp2_with fail
      with_reducible refine (specFlowOk_any (N : Int) _ _ ps xs _ _ _ (hp.keep hB2) (hx.keep hB2)).mono ?_
      rintro e w3 ⟨rfl, hnn⟩
      have bx3 := (bx2).keep hnn
      have hB3 : Below w1.heap.size w1 w3 := by (repeat (first | (with_reducible assumption) | (with_reducible exact Below.refl _ _) | ((with_reducible refine Below.alloc ?_ ?hsz _); (case hsz => (first | omega | (simp; done) | (simp; omega) | (simp at *; omega)))) | ((with_reducible refine Below.setCell ?_ ?hsz _); (case hsz => (first | omega | (simp; done) | (simp; omega) | (simp at *; omega)))) | (with_reducible refine Below.drew ?_) | (with_reducible refine below_drewN ?_ _) | ((with_reducible refine Below.trans ?_ (Below.mono (by with_reducible assumption) ?hsz)); (case hsz => (first | omega | (simp; done) | (simp; omega) | (simp at *; omega))))))
      clear hnn
      (try clear d0 d1 g0 g1)
      obtain ⟨bs, d0, d1, g0, g1⟩ := id bx3
      rw [hf]
      go_wp2_with fail
      with_reducible refine (specSideOk_any (N : Int) i _ ps _ _ (hp.keep hB3)).mono ?_
      rintro e w4 ⟨rfl, hnn⟩
      have bx4 := (bx3).keep hnn
      have hB4 : Below w1.heap.size w1 w4 := by (repeat (first | (with_reducible assumption) | (with_reducible exact Below.refl _ _) | ((with_reducible refine Below.alloc ?_ ?hsz _); (case hsz => (first | omega | (simp; done) | (simp; omega) | (simp at *; omega)))) | ((with_reducible refine Below.setCell ?_ ?hsz _); (case hsz => (first | omega | (simp; done) | (simp; omega) | (simp at *; omega)))) | (with_reducible refine Below.drew ?_) | (with_reducible refine below_drewN ?_ _) | ((with_reducible refine Below.trans ?_ (Below.mono (by with_reducible assumption) ?hsz)); (case hsz => (first | omega | (simp; done) | (simp; omega) | (simp at *; omega))))))
      clear hnn
      (try clear d0 d1 g0 g1)
      obtain ⟨bs, d0, d1, g0, g1⟩ := id bx4
      rw [hs]
      have hp5 := pow_le5 z5
      have i31 : i ≤ 31 := by omega
      have hN5 : N ≤ 5 := by omega
      obtain ⟨j0, hj0, hy0, hy1, hy2⟩ := info_parts int_info
      have hR0 : Row (w4.alloc (.cells #[] 3)) w4.heap.size w4.heap.size 0 0 ((sideH N i).take 0) :=
        ⟨World.ownsRow_lit (e := 3) (base := w4.heap.size) (size := 1) w4 #[] 0 (Nat.le_refl _) (by simp [maxLen]) rfl, by simp [small]⟩
      have bx5 := bx4.keep ((Below.refl w4.heap.size w4).alloc (Nat.le_refl _) (.cells #[] 3))
      have hB5 : Below w1.heap.size w1 (w4.alloc (.cells #[] 3)) := by (repeat (first | (with_reducible assumption) | (with_reducible exact Below.refl _ _) | ((with_reducible refine Below.alloc ?_ ?hsz _); (case hsz => (first | omega | (simp; done) | (simp; omega) | (simp at *; omega)))) | ((with_reducible refine Below.setCell ?_ ?hsz _); (case hsz => (first | omega | (simp; done) | (simp; omega) | (simp at *; omega)))) | (with_reducible refine Below.drew ?_) | (with_reducible refine below_drewN ?_ _) | ((with_reducible refine Below.trans ?_ (Below.mono (by with_reducible assumption) ?hsz)); (case hsz => (first | omega | (simp; done) | (simp; omega) | (simp at *; omega))))))
      have HBIT : Hid (∀ k : Nat, k < N → i / 2 ^ k % 2 = bitH i k) := Lib.hid (fun k hk => by
        have := bit_rem ⟨i.toNat, by omega⟩ ⟨k, by omega⟩
        simp only at this
        rwa [show ((i.toNat : Nat) : Int) = i by omega] at this)
      have HZ4 : Hid (w1.heap.size < w4.heap.size) := Lib.hid (by have := bx4.1; omega)
      clear hf hs a1 a2 hall hac HP hp5 z5 z0 hab i1
      go_wp2
      go_loopw [9, 8] (fun a b wr => ∃ k g1 c1' : Nat, k ≤ N ∧ a = .int .i64 (k : Int) ∧ b = .slice (some ⟨g1, 0, none⟩) k c1' ∧ Row wr w4.heap.size g1 k c1' ((sideH N i).take k) ∧ Box2 wr w1.heap.size (.int .i64 (N : Int)) (.slice A1 ps.length c1) ∧ Below w1.heap.size w1 wr) (fun a _ _ => N - (intOf a).toNat)
      case atStart => exact ⟨0, w4.heap.size, 0, by omega, rfl, rfl, hR0, bx5, hB5⟩
      case round =>
        clear hR0 bx5 hB5 d0 d1 g0 g1
        obtain ⟨k, gh, ch, hk, rfl, rfl, hR, bx, hB⟩ := hrel
        obtain ⟨bs, d0, d1, g0, g1⟩ := id bx
        by_cases hlt : k < N
        · have hk4 : k ≤ 4 := by omega
          obtain ⟨x, hx0⟩ : ∃ x, bitH i (k : Int) = x := ⟨_, rfl⟩
          have ht : (i / 2 ^ k).tmod 2 = x := by
            rw [Int.tmod_eq_emod_of_nonneg (Int.ediv_nonneg i0 (Int.le_of_lt (Int.pow_pos (by decide)))), HBIT.out k hlt, hx0]
          have HX : Hid ((sideH N i).take (k + 1) = (sideH N i).take k ++ [x]) := Lib.hid (by rw [sideH_take _ _ _ hlt, hx0])
          have hown := hR.1
          have hcap := hR.capd
          unfold maxLen at hcap
          have hrow : ∀ q, (Value.slice (some ⟨gh, 0, none⟩) k ch).ownBlock = some q → w4.heap.size ≤ q := fun q hq => (hown.lt q hq).1
          have hz4 : w1.heap.size < w4.heap.size := HZ4.out
          have hBs := hB.size
          clear hx0
          go_wp2_with (first
            | (at_builtin
               go_must (refine wpList_append_lies _ rfl _ _ 27 rfl w4.heap.size 3 j0 _ 1 8 Try.underlying27 hj0 hy0 hy1 hy2 rfl (by omega) _ k _ rfl (hown.alloc _) ⟨wr.heap.size, 0, none⟩ 1 1 [.int .i64 x] rfl rfl (World.news_of_block (cs := #[.int .i64 x]) (t := 3) (fr := (0, 0)) (heap_alloc_new _ _)) (by simp [Value.oneCell']) (by omega) (by unfold maxLen; omega) (by omega) (by have := hR.lt; simp; omega) _ rfl ?_)
               intro g2 k2 w7 hown7 hgr7 hat7 hlt7))
          have bx7 := (bx.keep ((Below.refl _ _).alloc (Nat.le_refl _) _)).grown hgr7 (by intro h; have := hrow _ h.symm; omega)
          have hB7 : Below w1.heap.size w1 w7 := Below.grown (w := wr.alloc (.cells #[.int .i64 x] 3)) (by (repeat (first | (with_reducible assumption) | (with_reducible exact Below.refl _ _) | ((with_reducible refine Below.alloc ?_ ?hsz _); (case hsz => (first | omega | (simp; done) | (simp; omega) | (simp at *; omega)))) | ((with_reducible refine Below.setCell ?_ ?hsz _); (case hsz => (first | omega | (simp; done) | (simp; omega) | (simp at *; omega)))) | (with_reducible refine Below.drew ?_) | (with_reducible refine below_drewN ?_ _) | ((with_reducible refine Below.trans ?_ (Below.mono (by with_reducible assumption) ?hsz)); (case hsz => (first | omega | (simp; done) | (simp; omega) | (simp at *; omega))))))) hgr7 (by (first | omega | (simp; done) | (simp; omega) | (simp at *; omega))) (fun q hq => by have := hrow q hq; omega)
          have hR8 : Row w7 w4.heap.size g2 (k + 1) k2 ((sideH N i).take (k + 1)) := ⟨by rw [HX.out, List.map_append]; exact hown7, by unfold small; omega⟩
          clear hown7 hgr7 hat7 hlt7 bx hown hrow hR ht
          go_wp2
          go_roundw
          case rel => exact ⟨k + 1, g2, k2, by omega, by go_num, rfl, hR8, bx7, hB7⟩
          case measure => simp [intOf]; omega
        · have hkN : N = k := by omega
          subst hkN
          rw [List.take_of_length_le (by rw [sideH_len]; exact Nat.le_refl _)] at hR
          generalize wr = w5 at *
          obtain ⟨TL, hTL⟩ : ∃ TL, tensL (lab (sideH N i)) ps = TL := ⟨_, rfl⟩
          rw [hTL] at HTB HPB
          have hp5 := hp.keep hB
          have hx5 := hx.keep hB
          have hh5 := hR.ints
          have hC0 : Below w5.heap.size w5 { w5 with drawn := w5.drawn + 1 } := ⟨rfl, rfl, rfl, Nat.le_refl _, fun _ _ => rfl⟩
          have hkd : decide ((N : Int) < (N : Int)) = false := decide_eq_false (by omega)
          clear hTL HBIT hR hlt hk
          go_wp2_with fail
          refine wp_region_flow 11 none [(0, 67), (1, 68), (2, 69), (3, 70), (4, 71), (5, 72), (6, 66), (7, 73), (8, 74), (9, 10), (10, 11)] (fun j x _ wx => stV N w5.heap.size (.slice A1 ps.length c1) t (.slice (some ⟨gh, 0, none⟩) N ch) (-ac) TL j x wx) (fun _ wa wb => Below wa.heap.size wa wb) (fun _ wx => Below w5.heap.size w5 wx) (by kernel_rfl) (by kernel_rfl) rfl hC0 ?_ ?_ ?_ ?_
          · exact fun _ k _ _ _ x _ wa wb hR h => stV_keep (k' := k) hR h
          · exact fun _ _ _ _ _ _ _ h => h
          · simp (maxSteps := 4000000) only [eachOp, fillF, List.setIfInBounds_toArray, List.set_cons_succ, List.set_cons_zero]
            refine ⟨?_, ?_, ?_, ?_, ?_, ?_, ?_, ?_, ?_, ?_, ?_, trivial⟩ <;> intro u f wx hC hd <;> (try simp [allV, useOf, Region.binds] at hd)
            · have e0 := (bel_cell hC (by omega)).trans d0
              have e1 := (bel_cell hC (by omega)).trans d1
              go_wp2
              exact ⟨_, rfl, rfl, Below.refl _ _, hC⟩
            · go_wp2
              exact ⟨_, rfl, rfl, Below.refl _ _, hC⟩
            · have e0 := (bel_cell hC (by omega)).trans d0
              have e1 := (bel_cell hC (by omega)).trans d1
              go_wp2
              exact ⟨_, rfl, rfl, Below.refl _ _, hC⟩
            · go_wp2
              exact ⟨_, rfl, rfl, Below.refl _ _, hC⟩
            · rw [show u 2 = _ from (by first | exact hd | exact hd.1 | exact hd.2 | exact hd.2.1 | exact hd.2.2 | exact hd.2.2.1 | exact hd.2.2.2 | exact hd.2.2.2.1 | exact hd.2.2.2.2), show u 3 = _ from (by first | exact hd | exact hd.1 | exact hd.2 | exact hd.2.1 | exact hd.2.2 | exact hd.2.2.1 | exact hd.2.2.2 | exact hd.2.2.2.1 | exact hd.2.2.2.2)]
              go_wp2_with fail
              refine (tensionOf_any (N : Int) _ _ ps (sideH N i) _ w4.heap.size wx (hp5.keep hC) (hh5.keep hC)).mono ?_
              rintro e wy ⟨r, rfl, hr, hby⟩
              rw [HTB.out] at hr
              go_wp2
              exact ⟨_, rfl, hr.mono hC.size, hby, hC.trans (hby.mono hC.size)⟩
            · rw [show u 0 = _ from (by first | exact hd | exact hd.1 | exact hd.2 | exact hd.2.1 | exact hd.2.2 | exact hd.2.2.1 | exact hd.2.2.2 | exact hd.2.2.2.1 | exact hd.2.2.2.2), show u 1 = _ from (by first | exact hd | exact hd.1 | exact hd.2 | exact hd.2.1 | exact hd.2.2 | exact hd.2.2.1 | exact hd.2.2.2 | exact hd.2.2.2.1 | exact hd.2.2.2.2)]
              have h4 : Ints wx w5.heap.size (u 4) TL := (by first | exact hd | exact hd.1 | exact hd.2 | exact hd.2.1 | exact hd.2.2)
              obtain ⟨A4, c4, e4, -, -, -, -⟩ := h4.form
              rw [e4] at h4 ⊢
              go_wp2_with fail
              refine (productOf_any (N : Int) _ _ _ ps xs TL _ _ w5.heap.size wx (hp5.keep hC) (hx5.keep hC) h4).mono ?_
              rintro e wy ⟨rfl, hby⟩
              rw [HPB.out.1, HPB.out.2]
              go_wp2
              exact ⟨_, rfl, rfl, hby, hC.trans (hby.mono hC.size)⟩
            · rw [show u 5 = _ from (by first | exact hd | exact hd.1 | exact hd.2 | exact hd.2.1 | exact hd.2.2 | exact hd.2.2.1 | exact hd.2.2.2 | exact hd.2.2.2.1 | exact hd.2.2.2.2)]
              go_wp2
              exact ⟨_, rfl, rfl, Below.refl _ _, hC⟩
            · rw [show u 6 = _ from (by first | exact hd | exact hd.1 | exact hd.2 | exact hd.2.1 | exact hd.2.2 | exact hd.2.2.1 | exact hd.2.2.2 | exact hd.2.2.2.1 | exact hd.2.2.2.2)]
              go_wp2
              exact ⟨_, rfl, rfl, Below.refl _ _, hC⟩
            · rw [show u 6 = _ from (by first | exact hd | exact hd.1 | exact hd.2 | exact hd.2.1 | exact hd.2.2 | exact hd.2.2.1 | exact hd.2.2.2 | exact hd.2.2.2.1 | exact hd.2.2.2.2)]
              go_wp2
              exact ⟨_, rfl, rfl, Below.refl _ _, hC⟩
            · rw [show u 7 = _ from (by first | exact hd | exact hd.1 | exact hd.2 | exact hd.2.1 | exact hd.2.2 | exact hd.2.2.1 | exact hd.2.2.2 | exact hd.2.2.2.1 | exact hd.2.2.2.2)]
              go_wp2
              exact ⟨_, rfl, rfl, Below.refl _ _, hC⟩
            · rw [show u 8 = _ from (by first | exact hd | exact hd.1 | exact hd.2 | exact hd.2.1 | exact hd.2.2 | exact hd.2.2.1 | exact hd.2.2.2 | exact hd.2.2.2.1 | exact hd.2.2.2.2)]
              go_wp2
              exact ⟨_, rfl, rfl, Below.refl _ _, hC⟩
          · intro u f wx hC hfin
            simp only [fillEnd, fillF, Act.put, List.setIfInBounds_toArray, List.set_cons_succ, List.set_cons_zero]
            rw [show u 9 = _ from hfin 9 (by decide) (by decide), show u 10 = _ from hfin 10 (by decide) (by decide)]
            have hBx : Below w1.heap.size w1 wx := hB.trans (hC.mono hB.size)
            have bxx := bx.keep hC
            clear d0 d1 g0 g1 bs
            obtain ⟨bs, d0, d1, g0, g1⟩ := id bxx
            go_wp2_with fail
            with_reducible refine (alive_any _).mono ?_
            rintro e w6 ⟨rfl, hnn⟩
            have bx6 := (bxx).keep hnn
            have hB6 : Below w1.heap.size w1 w6 := by (repeat (first | (with_reducible assumption) | (with_reducible exact Below.refl _ _) | ((with_reducible refine Below.alloc ?_ ?hsz _); (case hsz => (first | omega | (simp; done) | (simp; omega) | (simp at *; omega)))) | ((with_reducible refine Below.setCell ?_ ?hsz _); (case hsz => (first | omega | (simp; done) | (simp; omega) | (simp at *; omega)))) | (with_reducible refine Below.drew ?_) | (with_reducible refine below_drewN ?_ _) | ((with_reducible refine Below.trans ?_ (Below.mono (by with_reducible assumption) ?hsz)); (case hsz => (first | omega | (simp; done) | (simp; omega) | (simp at *; omega))))))
            clear hnn
            (try clear d0 d1 g0 g1)
            obtain ⟨bs, d0, d1, g0, g1⟩ := id bx6
            have hz6 := hB6.size
            go_wp2
            (go_ret; exact ⟨rfl, hBw1.trans (Below.mono (by with_reducible assumption) hBw1.size)⟩)

set_option maxRecDepth 100000 in
theorem contract (H : Type) (enc : TypeId × Value → H) (W : World) (base : Nat) (args : Array Value) (ds gs : List (DataW H)) (before : List MemPlace)
    (hval : ∀ (j : Nat) t v, Try.f9.params[j]? = some t → args[j]? = some v → Value.okWide Try.prog W .any base t v)
    (hW : DataW.Whole enc Try.prog Try.f9.params.toList Rows.fnSideTensionSpec.vars false W args.toList ds gs before) :
    Calls Try.prog 9 args W fun e W' => ∃ v, e = .returned v ∧ Rows.fnSideTensionSpec.post enc Try.prog Try.f9 false true false false W args v W' := by
  have hW' := hW
  obtain ⟨p, q, hA0, hV, rfl, hfz, hnd⟩ := hW
  have hA : DataW.TrodAll enc Try.prog W 0 (fun _ => true) true Try.f9.params.toList args.toList ds p := hA0
  rw [Try.params9] at hA hval
  obtain ⟨u0, us0, d0, ds0, p0, q0, hargs, rfl, rfl, g0, k0⟩ := trodAll_cons hA
  obtain ⟨rfl, rfl, rfl⟩ := trodAll_nil k0
  obtain rfl : args = #[u0] := by cases args; simp_all
  obtain ⟨rfl, rfl⟩ := trodVars_none hV
  obtain ⟨m0, e0⟩ := g0
  obtain ⟨s0, l0, f0, hh0⟩ := open_arg_bytes e0
  have f0' := one_of_cells Try.underlying22 (hval 0 _ _ rfl rfl) f0
  subst f0'
  refine (walk _ l0 W hh0).mono fun e W' ⟨he, hb⟩ => ?_
  subst he
  exact ⟨_, rfl, law_post Try.kids Try.full (by rw [Try.params9]; decide) rfl rfl Try.underlying4 hW' rfl rfl rfl hb⟩

set_option maxRecDepth 100000 in
theorem lifted (os : Os) (started : os.Started) (H : Type) (enc : TypeId × Value → H) :
    ReturnsInHanded {} Try.checked os 9 .any (Rows.fnSideTensionSpec.pre6 enc Try.prog Try.f9 Rows.fnSideTensionRow.domain false) (Rows.fnSideTensionSpec.post enc Try.prog Try.f9 false true false false) := by
  refine returnsInHanded_of_change (C := Try.checked) Try.own started (by kernel_rfl) Try.func9
    (ChangeSpec.witness6 (enc := enc) (C := Try.checked) false ⟨#[], #[.slice none 0 0], []⟩ 8 (by kernel_rfl) (by kernel_rfl) (by kernel_rfl) (by kernel_rfl)) ?_
  intro W base args ds gs before hval0 hW _ _
  exact contract H enc W base args ds gs before hval0 hW

theorem proved : Rows.FnSideTensionSaid :=
  OpenClaim.holds_of_wide 9 Try.f9 rfl rfl rfl rfl rfl rfl rfl ⟨rfl, rfl, rfl, rfl, rfl⟩ rfl rfl rfl rfl rfl (by kernel_rfl) Try.func9 (by kernel_rfl)
    (of_decide_eq_true (by kernel_rfl)) (by unfold Func.isWrapper; first | (rw [if_pos (by decide +kernel)]; kernel_rfl) | (rw [if_neg (by decide +kernel)]; exact ⟨rfl, rfl⟩))
    (fun os started H enc _ => lifted os started H enc)

end Go.Proofs.Ytmeicnhlehdboaa.lawSideTension
