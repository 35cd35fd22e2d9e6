/- FnRingOk: for every code the law holds: the program tells rings as its model does; begun one pipe later a ring is one exactly if it is; and an amount of 1 in each of its pipes is balanced. No condition. -/
import Derived.Test.YtlaeckjfjleplaaG1
import Derived.Test.YtlaeckjfjleplaaL5
import Derived.Test.YtlaeckjfjleplaaN6
import Derived.Test.YtlaeckjfjleplaaDS
import Derived.Test.YtlaeckjfjleplaaV3
import Derived.Test.YtlaeckjfjleplaaW3
import Derived.Deep.RegionHeld3
import Derived.Deep.AppendLies
import Derived.Deep.DeepCutAuto
import Derived.Deep.RegionLaw
namespace Go.Proofs.Ytlaeckjfjleplaa.lawRingOk
open Go.ChangeShapes Go.WideShapes Go.ChangeAt Go.RowKit Go.Deep Go.Joins

theorem rows_one {w : World} {b : Nat} {v : Value} {L : List Int} (t : TypeId) (h : Ints w b v L) (hb : b ≤ w.heap.size) : RowsI (w.alloc (.cells #[v] t)) b (.slice (some ⟨w.heap.size, 0, none⟩) 1 1) [L] := by
  refine ⟨some ⟨w.heap.size, 0, none⟩, 1, rfl, by simp, by simp [maxLen], by simp [small], fun k hk => ?_⟩
  have hk0 : k = 0 := by simpa using hk
  subst hk0
  exact ⟨w.heap.size, v, rfl, hb, by simp, by simp, h.alloc' _⟩

set_option maxHeartbeats 4000000 in
set_option maxRecDepth 20000 in
theorem walk (v : Value) (n : Nat) (w : World) (h : ArgBytes w v n) :
    Calls Try.prog 3 #[v] w fun e w' => e = .returned (.bool true) ∧ Below w.heap.size w w' := by
  obtain ⟨A, c, rfl, hc1, hc2, -⟩ := id h
  unfold maxLen at hc2
  by_cases hbig : 1048576 < n
  · go_enter Try.func3, Try.ntmps3
    go_wp2
    go_ret
    exact ⟨rfl, by (repeat (first | (with_reducible assumption) | (with_reducible exact Below.refl _ _) | ((with_reducible refine Below.alloc ?_ ?hsz _); (case hsz => (first | omega | (simp; done) | (simp; omega) | (simp at *; omega)))) | ((with_reducible refine Below.setCell ?_ ?hsz _); (case hsz => (first | omega | (simp; done) | (simp; omega) | (simp at *; omega)))) | (with_reducible refine Below.drew ?_) | (with_reducible refine below_drewN ?_ _) | ((with_reducible refine Below.trans ?_ (Below.mono (by with_reducible assumption) ?hsz)); (case hsz => (first | omega | (simp; done) | (simp; omega) | (simp at *; omega))))))⟩
  go_enter Try.func3, Try.ntmps3
  go_wp2_with fail
  with_reducible refine (drawRingOk_any _ n _ (h.keep (by (repeat (first | (with_reducible assumption) | (with_reducible exact Below.refl _ _) | ((with_reducible refine Below.alloc ?_ ?hsz _); (case hsz => (first | omega | (simp; done) | (simp; omega) | (simp at *; omega)))) | ((with_reducible refine Below.setCell ?_ ?hsz _); (case hsz => (first | omega | (simp; done) | (simp; omega) | (simp at *; omega)))) | (with_reducible refine Below.drew ?_) | (with_reducible refine below_drewN ?_ _) | ((with_reducible refine Below.trans ?_ (Below.mono (by with_reducible assumption) ?hsz)); (case hsz => (first | omega | (simp; done) | (simp; omega) | (simp at *; omega))))))))).mono ?_
  rintro e w1 ⟨z, ps, u, xs, r, rfl, hp, hx, hb1, hl8, hz1, hz6, hl6⟩
  have hBw1 : Below w.heap.size w w1 := by (repeat (first | (with_reducible assumption) | (with_reducible exact Below.refl _ _) | ((with_reducible refine Below.alloc ?_ ?hsz _); (case hsz => (first | omega | (simp; done) | (simp; omega) | (simp at *; omega)))) | ((with_reducible refine Below.setCell ?_ ?hsz _); (case hsz => (first | omega | (simp; done) | (simp; omega) | (simp at *; omega)))) | (with_reducible refine Below.drew ?_) | (with_reducible refine below_drewN ?_ _) | ((with_reducible refine Below.trans ?_ (Below.mono (by with_reducible assumption) ?hsz)); (case hsz => (first | omega | (simp; done) | (simp; omega) | (simp at *; omega))))))
  clear h hc1 hc2 hbig
  obtain ⟨A1, c1, rfl, hk1, hk2, hsm, -⟩ := hp.form
  unfold maxLen at hk2
  have bx1 : Box2 (w1.alloc (.cells #[.int .i64 z, .slice A1 ps.length c1] 25)) w1.heap.size (.int .i64 z) (.slice A1 ps.length c1) := Box2.new _ _ _ _
  have hB1 : Below w1.heap.size w1 (w1.alloc (.cells #[.int .i64 z, .slice A1 ps.length c1] 25)) := by (repeat (first | (with_reducible assumption) | (with_reducible exact Below.refl _ _) | ((with_reducible refine Below.alloc ?_ ?hsz _); (case hsz => (first | omega | (simp; done) | (simp; omega) | (simp at *; omega)))) | ((with_reducible refine Below.setCell ?_ ?hsz _); (case hsz => (first | omega | (simp; done) | (simp; omega) | (simp at *; omega)))) | (with_reducible refine Below.drew ?_) | (with_reducible refine below_drewN ?_ _) | ((with_reducible refine Below.trans ?_ (Below.mono (by with_reducible assumption) ?hsz)); (case hsz => (first | omega | (simp; done) | (simp; omega) | (simp at *; omega))))))
  obtain ⟨AX, cX, rfl, xk1, xk2, xk3, -⟩ := hx.form
  unfold maxLen at xk2
  obtain ⟨M, hM⟩ : ∃ M, xs.length = M := ⟨_, rfl⟩
  rw [hM] at hx xk1 xk3 hl6 ⊢
  have HM := Lib.hid hM
  clear hM
  go_wp2_with fail
  with_reducible refine (ringOk_rd z _ _ ps xs _ _ (hp.keep hB1) (hx.keep hB1)).mono ?_
  rintro e w2 ⟨rfl, hnn⟩
  have bx2 := (bx1).keep hnn
  have hB2 : Below w1.heap.size w1 w2 := by (repeat (first | (with_reducible assumption) | (with_reducible exact Below.refl _ _) | ((with_reducible refine Below.alloc ?_ ?hsz _); (case hsz => (first | omega | (simp; done) | (simp; omega) | (simp at *; omega)))) | ((with_reducible refine Below.setCell ?_ ?hsz _); (case hsz => (first | omega | (simp; done) | (simp; omega) | (simp at *; omega)))) | (with_reducible refine Below.drew ?_) | (with_reducible refine below_drewN ?_ _) | ((with_reducible refine Below.trans ?_ (Below.mono (by with_reducible assumption) ?hsz)); (case hsz => (first | omega | (simp; done) | (simp; omega) | (simp at *; omega))))))
  clear hnn
  (try clear d0 d1 g0 g1)
  obtain ⟨bs, d0, d1, g0, g1⟩ := id bx2
  go_wp2_with fail
  with_reducible refine (specRingOk_rd z _ _ ps xs _ _ (hp.keep hB2) (hx.keep hB2)).mono ?_
  rintro e w3 ⟨rfl, hnn⟩
  have bx3 := (bx2).keep hnn
  have hB3 : Below w1.heap.size w1 w3 := by (repeat (first | (with_reducible assumption) | (with_reducible exact Below.refl _ _) | ((with_reducible refine Below.alloc ?_ ?hsz _); (case hsz => (first | omega | (simp; done) | (simp; omega) | (simp at *; omega)))) | ((with_reducible refine Below.setCell ?_ ?hsz _); (case hsz => (first | omega | (simp; done) | (simp; omega) | (simp at *; omega)))) | (with_reducible refine Below.drew ?_) | (with_reducible refine below_drewN ?_ _) | ((with_reducible refine Below.trans ?_ (Below.mono (by with_reducible assumption) ?hsz)); (case hsz => (first | omega | (simp; done) | (simp; omega) | (simp at *; omega))))))
  clear hnn
  (try clear d0 d1 g0 g1)
  obtain ⟨bs, d0, d1, g0, g1⟩ := id bx3
  by_cases hM0 : M = 0
  · subst hM0
    have hr : ringB z ps xs = false := ring_no2 (by rw [HM.out]; rfl)
    rw [hr]
    go_wp2_with fail
    with_reducible refine (alive_any _).mono ?_
    rintro e w4 ⟨rfl, hnn⟩
    have bx4 := (bx3).keep hnn
    have hB4 : Below w1.heap.size w1 w4 := by (repeat (first | (with_reducible assumption) | (with_reducible exact Below.refl _ _) | ((with_reducible refine Below.alloc ?_ ?hsz _); (case hsz => (first | omega | (simp; done) | (simp; omega) | (simp at *; omega)))) | ((with_reducible refine Below.setCell ?_ ?hsz _); (case hsz => (first | omega | (simp; done) | (simp; omega) | (simp at *; omega)))) | (with_reducible refine Below.drew ?_) | (with_reducible refine below_drewN ?_ _) | ((with_reducible refine Below.trans ?_ (Below.mono (by with_reducible assumption) ?hsz)); (case hsz => (first | omega | (simp; done) | (simp; omega) | (simp at *; omega))))))
    clear hnn
    (try clear d0 d1 g0 g1)
    obtain ⟨bs, d0, d1, g0, g1⟩ := id bx4
    go_wp2
    (go_ret; exact ⟨rfl, hBw1.trans (Below.mono (by with_reducible assumption) hBw1.size)⟩)
  · have h0 : 0 < xs.length := by have := HM.out; omega
    have hx3 := hx.keep hB3
    obtain ⟨gX, oX, hAX, gX2, hcx⟩ := hx3.at' h0
    subst hAX
    obtain ⟨i0', hi0', hz0, hz1', hz2'⟩ := info_parts int_info
    have c00 := hcx w3 (Below.refl _ _) 0 h0
    rw [Nat.add_zero] at c00
    obtain ⟨x0, hx0⟩ : ∃ x0, xs[0] = x0 := ⟨_, rfl⟩
    rw [hx0] at c00
    have HX0 := Lib.hid hx0
    have HC := Lib.hid hcx
    clear hx0 hcx
    generalize hrb : ringB z ps xs = rb at *
    have HRB := Lib.hid hrb
    clear hrb
    go_upto_region 9 with fail
    go_cut [6] (fun t6 wx => Ints wx w3.heap.size t6 (laterI xs) ∧ Below w3.heap.size w3 wx)
    case first =>
      have hMM := HM.out
      have hcc : M ≠ 1 → cX ≠ 1 := fun h => by omega
      have hnewsOf : ∀ W : World, Below w3.heap.size w3 W → ∀ j u, ((xs.drop 1).map (Value.int .i64))[j]? = some u → W.cell? ((⟨gX, oX + 1, none⟩ : Addr).add j) = some u := by
        intro W hW
        refine news_lies (L := xs.drop 1) (fun j hj => ?_)
        have hj2 : 1 + j < xs.length := by rw [List.length_drop] at hj; omega
        have := HC.out W hW (1 + j) hj2
        rw [show oX + 1 + j = oX + (1 + j) by omega, this]
        simp [Nat.add_comm]
      have hdl : (xs.drop 1).length = M - 1 := by rw [List.length_drop, hMM]
      have hlater : laterI xs = xs.drop 1 ++ [x0] := by
        have : xs.getD 0 0 = x0 := by rw [getD_at h0]; exact HX0.out
        rw [laterI, this]
      have hnew1 : ∀ (W : World) (b : Nat), W.cell? ⟨b, 0, none⟩ = some (.int .i64 x0) → ∀ j u, [Value.int .i64 x0][j]? = some u → W.cell? ((⟨b, 0, none⟩ : Addr).add j) = some u := by
        intro W b hW j u hj
        cases j with
        | zero => simp at hj; rw [← hj]; exact hW
        | succ j => simp at hj
      have hA1 := own_keep (w' := ((w3.alloc (.cells #[] 3)).drew)) (World.ownsRow_lit (e := 3) (base := w3.heap.size) (size := 1) w3 #[] 0 (Nat.le_refl _) (by simp [maxLen]) rfl) (Nat.le_refl _) (by (repeat (first | (with_reducible assumption) | (with_reducible exact Below.refl _ _) | ((with_reducible refine Below.alloc ?_ ?hsz _); (case hsz => (first | omega | (simp; done) | (simp; omega) | (simp at *; omega)))) | ((with_reducible refine Below.setCell ?_ ?hsz _); (case hsz => (first | omega | (simp; done) | (simp; omega) | (simp at *; omega)))) | (with_reducible refine Below.drew ?_) | (with_reducible refine below_drewN ?_ _) | ((with_reducible refine Below.trans ?_ (Below.mono (by with_reducible assumption) ?hsz)); (case hsz => (first | omega | (simp; done) | (simp; omega) | (simp at *; omega)))))))
      have hA2 := own_keep (w' := (((w3.alloc (.cells #[] 3)).alloc (.cells #[.int .i64 x0] 3)).drew)) (World.ownsRow_lit (e := 3) (base := w3.heap.size) (size := 1) w3 #[] 0 (Nat.le_refl _) (by simp [maxLen]) rfl) (Nat.le_refl _) (by (repeat (first | (with_reducible assumption) | (with_reducible exact Below.refl _ _) | ((with_reducible refine Below.alloc ?_ ?hsz _); (case hsz => (first | omega | (simp; done) | (simp; omega) | (simp at *; omega)))) | ((with_reducible refine Below.setCell ?_ ?hsz _); (case hsz => (first | omega | (simp; done) | (simp; omega) | (simp at *; omega)))) | (with_reducible refine Below.drew ?_) | (with_reducible refine below_drewN ?_ _) | ((with_reducible refine Below.trans ?_ (Below.mono (by with_reducible assumption) ?hsz)); (case hsz => (first | omega | (simp; done) | (simp; omega) | (simp at *; omega)))))))
      have hA3 := own_keep (w' := (((w3.alloc (.cells #[.int .i64 x0] 3)).alloc (.cells #[] 3)).drew)) (World.ownsRow_lit (e := 3) (base := w3.heap.size) (size := 1) (w3.alloc (.cells #[.int .i64 x0] 3)) #[] 0 (by simp) (by simp [maxLen]) rfl) (Nat.le_refl _) (by (repeat (first | (with_reducible assumption) | (with_reducible exact Below.refl _ _) | ((with_reducible refine Below.alloc ?_ ?hsz _); (case hsz => (first | omega | (simp; done) | (simp; omega) | (simp at *; omega)))) | ((with_reducible refine Below.setCell ?_ ?hsz _); (case hsz => (first | omega | (simp; done) | (simp; omega) | (simp at *; omega)))) | (with_reducible refine Below.drew ?_) | (with_reducible refine below_drewN ?_ _) | ((with_reducible refine Below.trans ?_ (Below.mono (by with_reducible assumption) ?hsz)); (case hsz => (first | omega | (simp; done) | (simp; omega) | (simp at *; omega)))))))
      rw [World.size_alloc] at hA3
      have HNW := Lib.hid hnewsOf
      have HN1 := Lib.hid hnew1
      have HDL := Lib.hid hdl
      have HLT := Lib.hid hlater
      clear hnewsOf hnew1 hdl hlater
      by_cases hM1 : M = 1
      · subst hM1
        have hnil : xs.drop 1 = [] := List.length_eq_zero_iff.1 (by rw [HDL.out])
        by_cases hc1' : cX = 1
        · subst hc1'
          go_region_law (first
            | (refine step_append_lies _ rfl _ _ 26 rfl w3.heap.size 3 i0' _ 1 8 Try.underlying26 hi0' hz0 hz1' hz2' rfl (by omega) (.slice (some ⟨w3.heap.size, 0, none⟩) 0 0) 0 [] rfl (by exact hA2) ⟨w3.heap.size + 1, 0, none⟩ 1 1 [.int .i64 x0] rfl rfl (by exact HN1.out _ _ (by simp)) (by simp [Value.oneCell']) (by omega) (by unfold maxLen; omega) (by omega) (by first | omega | (simp; done) | (simp; omega)) _ rfl ?_; intro g3 k3 w8 hown8 hgr8 hat8 hlt8; have hB8 : Below w3.heap.size w3 w8 := Below.grown (w := (((w3.alloc (.cells #[] 3)).alloc (.cells #[.int .i64 x0] 3)).drew)) (by (repeat (first | (with_reducible assumption) | (with_reducible exact Below.refl _ _) | ((with_reducible refine Below.alloc ?_ ?hsz _); (case hsz => (first | omega | (simp; done) | (simp; omega) | (simp at *; omega)))) | ((with_reducible refine Below.setCell ?_ ?hsz _); (case hsz => (first | omega | (simp; done) | (simp; omega) | (simp at *; omega)))) | (with_reducible refine Below.drew ?_) | (with_reducible refine below_drewN ?_ _) | ((with_reducible refine Below.trans ?_ (Below.mono (by with_reducible assumption) ?hsz)); (case hsz => (first | omega | (simp; done) | (simp; omega) | (simp at *; omega))))))) hgr8 (by first | omega | (simp; done) | (simp; omega)) (fun q hq => by have hq' : w3.heap.size = q := (by injection hq); omega))
            | (refine step_append_lies _ rfl _ _ 26 rfl w3.heap.size 3 i0' _ 1 8 Try.underlying26 hi0' hz0 hz1' hz2' rfl (by omega) (.slice (some ⟨w3.heap.size + 1, 0, none⟩) 0 0) 0 [] rfl (by exact hA3) ⟨w3.heap.size, 0, none⟩ 1 1 [.int .i64 x0] rfl rfl (by exact HN1.out _ _ (by simp)) (by simp [Value.oneCell']) (by omega) (by unfold maxLen; omega) (by omega) (by first | omega | (simp; done) | (simp; omega)) _ rfl ?_; intro g3 k3 w8 hown8 hgr8 hat8 hlt8; have hB8 : Below w3.heap.size w3 w8 := Below.grown (w := (((w3.alloc (.cells #[.int .i64 x0] 3)).alloc (.cells #[] 3)).drew)) (by (repeat (first | (with_reducible assumption) | (with_reducible exact Below.refl _ _) | ((with_reducible refine Below.alloc ?_ ?hsz _); (case hsz => (first | omega | (simp; done) | (simp; omega) | (simp at *; omega)))) | ((with_reducible refine Below.setCell ?_ ?hsz _); (case hsz => (first | omega | (simp; done) | (simp; omega) | (simp at *; omega)))) | (with_reducible refine Below.drew ?_) | (with_reducible refine below_drewN ?_ _) | ((with_reducible refine Below.trans ?_ (Below.mono (by with_reducible assumption) ?hsz)); (case hsz => (first | omega | (simp; done) | (simp; omega) | (simp at *; omega))))))) hgr8 (by first | omega | (simp; done) | (simp; omega)) (fun q hq => by have hq' : w3.heap.size + 1 = q := (by injection hq); omega)))
          all_goals
            go_wp2_with fail
            go_meet
            case rel => exact ⟨⟨by rw [HLT.out, hnil]; exact hown8, by rw [HLT.out, hnil]; simp [small]⟩, hB8⟩
        · go_region_law (first
            | (refine step_append_lies _ rfl _ _ 26 rfl w3.heap.size 3 i0' _ 1 8 Try.underlying26 hi0' hz0 hz1' hz2' rfl (by omega) (.slice (some ⟨w3.heap.size, 0, none⟩) 0 0) 0 [] rfl (by exact hA2) ⟨w3.heap.size + 1, 0, none⟩ 1 1 [.int .i64 x0] rfl rfl (by exact HN1.out _ _ (by simp)) (by simp [Value.oneCell']) (by omega) (by unfold maxLen; omega) (by omega) (by first | omega | (simp; done) | (simp; omega)) _ rfl ?_; intro g3 k3 w8 hown8 hgr8 hat8 hlt8; have hB8 : Below w3.heap.size w3 w8 := Below.grown (w := (((w3.alloc (.cells #[] 3)).alloc (.cells #[.int .i64 x0] 3)).drew)) (by (repeat (first | (with_reducible assumption) | (with_reducible exact Below.refl _ _) | ((with_reducible refine Below.alloc ?_ ?hsz _); (case hsz => (first | omega | (simp; done) | (simp; omega) | (simp at *; omega)))) | ((with_reducible refine Below.setCell ?_ ?hsz _); (case hsz => (first | omega | (simp; done) | (simp; omega) | (simp at *; omega)))) | (with_reducible refine Below.drew ?_) | (with_reducible refine below_drewN ?_ _) | ((with_reducible refine Below.trans ?_ (Below.mono (by with_reducible assumption) ?hsz)); (case hsz => (first | omega | (simp; done) | (simp; omega) | (simp at *; omega))))))) hgr8 (by first | omega | (simp; done) | (simp; omega)) (fun q hq => by have hq' : w3.heap.size = q := (by injection hq); omega))
            | (refine step_append_lies _ rfl _ _ 26 rfl w3.heap.size 3 i0' _ 1 8 Try.underlying26 hi0' hz0 hz1' hz2' rfl (by omega) (.slice (some ⟨w3.heap.size + 1, 0, none⟩) 0 0) 0 [] rfl (by exact hA3) ⟨w3.heap.size, 0, none⟩ 1 1 [.int .i64 x0] rfl rfl (by exact HN1.out _ _ (by simp)) (by simp [Value.oneCell']) (by omega) (by unfold maxLen; omega) (by omega) (by first | omega | (simp; done) | (simp; omega)) _ rfl ?_; intro g3 k3 w8 hown8 hgr8 hat8 hlt8; have hB8 : Below w3.heap.size w3 w8 := Below.grown (w := (((w3.alloc (.cells #[.int .i64 x0] 3)).alloc (.cells #[] 3)).drew)) (by (repeat (first | (with_reducible assumption) | (with_reducible exact Below.refl _ _) | ((with_reducible refine Below.alloc ?_ ?hsz _); (case hsz => (first | omega | (simp; done) | (simp; omega) | (simp at *; omega)))) | ((with_reducible refine Below.setCell ?_ ?hsz _); (case hsz => (first | omega | (simp; done) | (simp; omega) | (simp at *; omega)))) | (with_reducible refine Below.drew ?_) | (with_reducible refine below_drewN ?_ _) | ((with_reducible refine Below.trans ?_ (Below.mono (by with_reducible assumption) ?hsz)); (case hsz => (first | omega | (simp; done) | (simp; omega) | (simp at *; omega))))))) hgr8 (by first | omega | (simp; done) | (simp; omega)) (fun q hq => by have hq' : w3.heap.size + 1 = q := (by injection hq); omega)))
          all_goals
            go_wp2_with fail
            go_meet
            case rel => exact ⟨⟨by rw [HLT.out, hnil]; exact hown8, by rw [HLT.out, hnil]; simp [small]⟩, hB8⟩
      · have hc1' := hcc hM1
        have hM2 : (1 : Int) ≤ (M : Int) := by omega
        have hM3 : (0 : Int) < (M : Int) := by omega
        have hM4 : 0 < M := by omega
        go_region_law (first
          | (refine step_append_lies _ rfl _ _ 26 rfl w3.heap.size 3 i0' _ 1 8 Try.underlying26 hi0' hz0 hz1' hz2' rfl (by omega) (.slice (some ⟨w3.heap.size, 0, none⟩) 0 0) 0 [] rfl (by exact hA1) ⟨gX, oX + 1, none⟩ (M - 1) (cX - 1) ((xs.drop 1).map (Value.int .i64)) rfl (by rw [List.length_map, HDL.out, Nat.mul_one]) (by exact HNW.out _ (by (repeat (first | (with_reducible assumption) | (with_reducible exact Below.refl _ _) | ((with_reducible refine Below.alloc ?_ ?hsz _); (case hsz => (first | omega | (simp; done) | (simp; omega) | (simp at *; omega)))) | ((with_reducible refine Below.setCell ?_ ?hsz _); (case hsz => (first | omega | (simp; done) | (simp; omega) | (simp at *; omega)))) | (with_reducible refine Below.drew ?_) | (with_reducible refine below_drewN ?_ _) | ((with_reducible refine Below.trans ?_ (Below.mono (by with_reducible assumption) ?hsz)); (case hsz => (first | omega | (simp; done) | (simp; omega) | (simp at *; omega)))))))) (by intro u' hu'; obtain ⟨y', -, rfl⟩ := List.mem_map.1 hu'; rfl) (by omega) (by unfold maxLen; omega) (by omega) (by first | omega | (simp; done) | (simp; omega)) _ rfl ?_; intro g2 k2 w7 hown7 hgr7 hat7 hlt7; rw [Nat.zero_add, List.nil_append] at hown7; have hB7 : Below w3.heap.size w3 w7 := Below.grown (w := ((w3.alloc (.cells #[] 3)).drew)) (by (repeat (first | (with_reducible assumption) | (with_reducible exact Below.refl _ _) | ((with_reducible refine Below.alloc ?_ ?hsz _); (case hsz => (first | omega | (simp; done) | (simp; omega) | (simp at *; omega)))) | ((with_reducible refine Below.setCell ?_ ?hsz _); (case hsz => (first | omega | (simp; done) | (simp; omega) | (simp at *; omega)))) | (with_reducible refine Below.drew ?_) | (with_reducible refine below_drewN ?_ _) | ((with_reducible refine Below.trans ?_ (Below.mono (by with_reducible assumption) ?hsz)); (case hsz => (first | omega | (simp; done) | (simp; omega) | (simp at *; omega))))))) hgr7 (by first | omega | (simp; done) | (simp; omega)) (fun q hq => by have hq' : w3.heap.size = q := (by injection hq); omega); have hs7 := hB7.size; have c07 := (hB7.cell (p := ⟨gX, oX, none⟩) gX2).trans c00; have hgX7 : gX < w7.heap.size := (by omega))
          | (refine step_append_lies _ rfl _ _ 26 rfl w3.heap.size 3 i0' _ 1 8 Try.underlying26 hi0' hz0 hz1' hz2' rfl (by omega) (.slice (some ⟨w3.heap.size, 0, none⟩) 0 0) 0 [] rfl (by exact hA2) ⟨gX, oX + 1, none⟩ (M - 1) (cX - 1) ((xs.drop 1).map (Value.int .i64)) rfl (by rw [List.length_map, HDL.out, Nat.mul_one]) (by exact HNW.out _ (by (repeat (first | (with_reducible assumption) | (with_reducible exact Below.refl _ _) | ((with_reducible refine Below.alloc ?_ ?hsz _); (case hsz => (first | omega | (simp; done) | (simp; omega) | (simp at *; omega)))) | ((with_reducible refine Below.setCell ?_ ?hsz _); (case hsz => (first | omega | (simp; done) | (simp; omega) | (simp at *; omega)))) | (with_reducible refine Below.drew ?_) | (with_reducible refine below_drewN ?_ _) | ((with_reducible refine Below.trans ?_ (Below.mono (by with_reducible assumption) ?hsz)); (case hsz => (first | omega | (simp; done) | (simp; omega) | (simp at *; omega)))))))) (by intro u' hu'; obtain ⟨y', -, rfl⟩ := List.mem_map.1 hu'; rfl) (by omega) (by unfold maxLen; omega) (by omega) (by first | omega | (simp; done) | (simp; omega)) _ rfl ?_; intro g2 k2 w7 hown7 hgr7 hat7 hlt7; rw [Nat.zero_add, List.nil_append] at hown7; have hB7 : Below w3.heap.size w3 w7 := Below.grown (w := (((w3.alloc (.cells #[] 3)).alloc (.cells #[.int .i64 x0] 3)).drew)) (by (repeat (first | (with_reducible assumption) | (with_reducible exact Below.refl _ _) | ((with_reducible refine Below.alloc ?_ ?hsz _); (case hsz => (first | omega | (simp; done) | (simp; omega) | (simp at *; omega)))) | ((with_reducible refine Below.setCell ?_ ?hsz _); (case hsz => (first | omega | (simp; done) | (simp; omega) | (simp at *; omega)))) | (with_reducible refine Below.drew ?_) | (with_reducible refine below_drewN ?_ _) | ((with_reducible refine Below.trans ?_ (Below.mono (by with_reducible assumption) ?hsz)); (case hsz => (first | omega | (simp; done) | (simp; omega) | (simp at *; omega))))))) hgr7 (by first | omega | (simp; done) | (simp; omega)) (fun q hq => by have hq' : w3.heap.size = q := (by injection hq); omega); have hs7 := hB7.size; have c07 := (hB7.cell (p := ⟨gX, oX, none⟩) gX2).trans c00; have hgX7 : gX < w7.heap.size := (by omega); have cx0 : w7.cell? ⟨w3.heap.size + 1, 0, none⟩ = some (.int .i64 x0) := (hgr7.cell_far ⟨w3.heap.size + 1, 0, none⟩ (by first | omega | (simp; done) | (simp; omega)) (by simp [Value.ownBlock])).trans (by simp))
          | (refine step_append_lies _ rfl _ _ 26 rfl w3.heap.size 3 i0' _ 1 8 Try.underlying26 hi0' hz0 hz1' hz2' rfl (by omega) (.slice (some ⟨w3.heap.size + 1, 0, none⟩) 0 0) 0 [] rfl (by exact hA3) ⟨gX, oX + 1, none⟩ (M - 1) (cX - 1) ((xs.drop 1).map (Value.int .i64)) rfl (by rw [List.length_map, HDL.out, Nat.mul_one]) (by exact HNW.out _ (by (repeat (first | (with_reducible assumption) | (with_reducible exact Below.refl _ _) | ((with_reducible refine Below.alloc ?_ ?hsz _); (case hsz => (first | omega | (simp; done) | (simp; omega) | (simp at *; omega)))) | ((with_reducible refine Below.setCell ?_ ?hsz _); (case hsz => (first | omega | (simp; done) | (simp; omega) | (simp at *; omega)))) | (with_reducible refine Below.drew ?_) | (with_reducible refine below_drewN ?_ _) | ((with_reducible refine Below.trans ?_ (Below.mono (by with_reducible assumption) ?hsz)); (case hsz => (first | omega | (simp; done) | (simp; omega) | (simp at *; omega)))))))) (by intro u' hu'; obtain ⟨y', -, rfl⟩ := List.mem_map.1 hu'; rfl) (by omega) (by unfold maxLen; omega) (by omega) (by first | omega | (simp; done) | (simp; omega)) _ rfl ?_; intro g2 k2 w7 hown7 hgr7 hat7 hlt7; rw [Nat.zero_add, List.nil_append] at hown7; have hB7 : Below w3.heap.size w3 w7 := Below.grown (w := (((w3.alloc (.cells #[.int .i64 x0] 3)).alloc (.cells #[] 3)).drew)) (by (repeat (first | (with_reducible assumption) | (with_reducible exact Below.refl _ _) | ((with_reducible refine Below.alloc ?_ ?hsz _); (case hsz => (first | omega | (simp; done) | (simp; omega) | (simp at *; omega)))) | ((with_reducible refine Below.setCell ?_ ?hsz _); (case hsz => (first | omega | (simp; done) | (simp; omega) | (simp at *; omega)))) | (with_reducible refine Below.drew ?_) | (with_reducible refine below_drewN ?_ _) | ((with_reducible refine Below.trans ?_ (Below.mono (by with_reducible assumption) ?hsz)); (case hsz => (first | omega | (simp; done) | (simp; omega) | (simp at *; omega))))))) hgr7 (by first | omega | (simp; done) | (simp; omega)) (fun q hq => by have hq' : w3.heap.size + 1 = q := (by injection hq); omega); have hs7 := hB7.size; have c07 := (hB7.cell (p := ⟨gX, oX, none⟩) gX2).trans c00; have hgX7 : gX < w7.heap.size := (by omega); have cx0' : w7.cell? ⟨w3.heap.size, 0, none⟩ = some (.int .i64 x0) := (hgr7.cell_far ⟨w3.heap.size, 0, none⟩ (by first | omega | (simp; done) | (simp; omega)) (by simp [Value.ownBlock])).trans (by simp))
          | (refine step_append_lies _ rfl _ _ 26 rfl w3.heap.size 3 i0' _ 1 8 Try.underlying26 hi0' hz0 hz1' hz2' rfl (by omega) (.slice (some ⟨g2, 0, none⟩) (M - 1) k2) (M - 1) _ rfl (by exact (hown7.alloc _)) ⟨w7.heap.size, 0, none⟩ 1 1 [.int .i64 x0] rfl rfl (by exact (World.news_of_block (cs := #[.int .i64 x0]) (t := 3) (fr := (0, 0)) (heap_alloc_new _ _))) (by simp [Value.oneCell']) (by omega) (by unfold maxLen; omega) (by omega) (by first | omega | (simp; done) | (simp; omega)) _ rfl ?_; intro g3 k3 w8 hown8 hgr8 hat8 hlt8; have hB8 : Below w3.heap.size w3 w8 := Below.grown (w := (w7.alloc (.cells #[.int .i64 x0] 3))) (by (repeat (first | (with_reducible assumption) | (with_reducible exact Below.refl _ _) | ((with_reducible refine Below.alloc ?_ ?hsz _); (case hsz => (first | omega | (simp; done) | (simp; omega) | (simp at *; omega)))) | ((with_reducible refine Below.setCell ?_ ?hsz _); (case hsz => (first | omega | (simp; done) | (simp; omega) | (simp at *; omega)))) | (with_reducible refine Below.drew ?_) | (with_reducible refine below_drewN ?_ _) | ((with_reducible refine Below.trans ?_ (Below.mono (by with_reducible assumption) ?hsz)); (case hsz => (first | omega | (simp; done) | (simp; omega) | (simp at *; omega))))))) hgr8 (by first | omega | (simp; done) | (simp; omega)) (fun q hq => by have hq' : g2 = q := (by injection hq); have hq3 := (hown7.lt g2 rfl).1; omega))
          | (refine step_append_lies _ rfl _ _ 26 rfl w3.heap.size 3 i0' _ 1 8 Try.underlying26 hi0' hz0 hz1' hz2' rfl (by omega) (.slice (some ⟨g2, 0, none⟩) (M - 1) k2) (M - 1) _ rfl (by exact hown7) ⟨w3.heap.size + 1, 0, none⟩ 1 1 [.int .i64 x0] rfl rfl (by exact (HN1.out _ _ cx0)) (by simp [Value.oneCell']) (by omega) (by unfold maxLen; omega) (by omega) (by first | omega | (simp; done) | (simp; omega)) _ rfl ?_; intro g3 k3 w8 hown8 hgr8 hat8 hlt8; have hB8 : Below w3.heap.size w3 w8 := Below.grown (w := w7) (by (repeat (first | (with_reducible assumption) | (with_reducible exact Below.refl _ _) | ((with_reducible refine Below.alloc ?_ ?hsz _); (case hsz => (first | omega | (simp; done) | (simp; omega) | (simp at *; omega)))) | ((with_reducible refine Below.setCell ?_ ?hsz _); (case hsz => (first | omega | (simp; done) | (simp; omega) | (simp at *; omega)))) | (with_reducible refine Below.drew ?_) | (with_reducible refine below_drewN ?_ _) | ((with_reducible refine Below.trans ?_ (Below.mono (by with_reducible assumption) ?hsz)); (case hsz => (first | omega | (simp; done) | (simp; omega) | (simp at *; omega))))))) hgr8 (by first | omega | (simp; done) | (simp; omega)) (fun q hq => by have hq' : g2 = q := (by injection hq); have hq3 := (hown7.lt g2 rfl).1; omega))
          | (refine step_append_lies _ rfl _ _ 26 rfl w3.heap.size 3 i0' _ 1 8 Try.underlying26 hi0' hz0 hz1' hz2' rfl (by omega) (.slice (some ⟨g2, 0, none⟩) (M - 1) k2) (M - 1) _ rfl (by exact hown7) ⟨w3.heap.size, 0, none⟩ 1 1 [.int .i64 x0] rfl rfl (by exact (HN1.out _ _ cx0')) (by simp [Value.oneCell']) (by omega) (by unfold maxLen; omega) (by omega) (by first | omega | (simp; done) | (simp; omega)) _ rfl ?_; intro g3 k3 w8 hown8 hgr8 hat8 hlt8; have hB8 : Below w3.heap.size w3 w8 := Below.grown (w := w7) (by (repeat (first | (with_reducible assumption) | (with_reducible exact Below.refl _ _) | ((with_reducible refine Below.alloc ?_ ?hsz _); (case hsz => (first | omega | (simp; done) | (simp; omega) | (simp at *; omega)))) | ((with_reducible refine Below.setCell ?_ ?hsz _); (case hsz => (first | omega | (simp; done) | (simp; omega) | (simp at *; omega)))) | (with_reducible refine Below.drew ?_) | (with_reducible refine below_drewN ?_ _) | ((with_reducible refine Below.trans ?_ (Below.mono (by with_reducible assumption) ?hsz)); (case hsz => (first | omega | (simp; done) | (simp; omega) | (simp at *; omega))))))) hgr8 (by first | omega | (simp; done) | (simp; omega)) (fun q hq => by have hq' : g2 = q := (by injection hq); have hq3 := (hown7.lt g2 rfl).1; omega)))
        all_goals
          go_wp2_with fail
          go_meet
          case rel => exact ⟨⟨by rw [HLT.out, List.length_append, HDL.out, List.map_append]; exact hown8, by rw [HLT.out, List.length_append, HDL.out]; simp [small]; omega⟩, hB8⟩
    case rest =>
      obtain ⟨hlat, hbx⟩ := hcut
      have bxc := bx3.keep hbx
      have hBc : Below w1.heap.size w1 wc := hB3.trans (hbx.mono hB3.size)
      have hzc := hbx.size
      have hl := later_len (xs := xs) (by omega)
      rw [HM.out] at hl
      obtain ⟨AL, cL, rfl, -, -, -, -⟩ := hlat.form
      rw [hl] at hlat ⊢
      clear d0 d1 g0 g1 hl
      obtain ⟨bs', d0, d1, g0, g1⟩ := id bxc
      have hsrcA := fun j (hj : j < xs.length) => HC.out ((wc.alloc (.cells #[.int .i64 1] 3)).drew) (by (repeat (first | (with_reducible assumption) | (with_reducible exact Below.refl _ _) | ((with_reducible refine Below.alloc ?_ ?hsz _); (case hsz => (first | omega | (simp; done) | (simp; omega) | (simp at *; omega)))) | ((with_reducible refine Below.setCell ?_ ?hsz _); (case hsz => (first | omega | (simp; done) | (simp; omega) | (simp at *; omega)))) | (with_reducible refine Below.drew ?_) | (with_reducible refine below_drewN ?_ _) | ((with_reducible refine Below.trans ?_ (Below.mono (by with_reducible assumption) ?hsz)); (case hsz => (first | omega | (simp; done) | (simp; omega) | (simp at *; omega))))))) j hj
      have hnews := news_lies (w := (wc.alloc (.cells #[.int .i64 1] 3)).drew) hsrcA
      have hown := own_keep (World.ownsRow_lit (e := 3) (base := wc.heap.size) (size := 1) wc #[.int .i64 1] 1 (Nat.le_refl _) (by simp [maxLen]) rfl) (Nat.le_refl _) (Below.drew (Below.refl _ _))
      have hMM := HM.out
      go_wp2_with fail
      go_region_held3 (fun w' => w'.cell? ⟨w1.heap.size, 0, none⟩ = some (.int .i64 z) ∧ w'.cell? ⟨w1.heap.size, 1, none⟩ = some (.slice A1 ps.length c1))
        (first | exact ⟨q0, q1⟩ | exact ⟨z0, z1⟩ | go_keep | (go_split_ands; (refine ⟨?_, ?_⟩ <;> first | (with_reducible assumption) | (with_reducible refine cell_drew ?_; with_reducible assumption) | (refine cell_keep ?_ (by with_reducible assumption); with_reducible assumption))))
        (first
          | (refine step_append_lies _ rfl _ _ 26 rfl wc.heap.size 3 i0' _ 1 8 Try.underlying26 hi0' hz0 hz1' hz2' rfl (by omega) (.slice (some ⟨wc.heap.size, 0, none⟩) 1 1) 1 [.int .i64 1] rfl (by exact hown) ⟨gX, oX, none⟩ M cX (xs.map (Value.int .i64)) rfl (by rw [List.length_map, hMM, Nat.mul_one]) (by exact hnews) (by simp [Value.oneCell']) (by omega) (by unfold maxLen; omega) (by omega) (by simp) _ rfl ?_; intro g2 k2 w7 hown7 hgr7 hat7 hlt7; have bx7 := (bxc.keep (w' := (wc.alloc (.cells #[.int .i64 1] 3)).drew) (by (repeat (first | (with_reducible assumption) | (with_reducible exact Below.refl _ _) | ((with_reducible refine Below.alloc ?_ ?hsz _); (case hsz => (first | omega | (simp; done) | (simp; omega) | (simp at *; omega)))) | ((with_reducible refine Below.setCell ?_ ?hsz _); (case hsz => (first | omega | (simp; done) | (simp; omega) | (simp at *; omega)))) | (with_reducible refine Below.drew ?_) | (with_reducible refine below_drewN ?_ _) | ((with_reducible refine Below.trans ?_ (Below.mono (by with_reducible assumption) ?hsz)); (case hsz => (first | omega | (simp; done) | (simp; omega) | (simp at *; omega)))))))).grown hgr7 (by simp [Value.ownBlock]; omega); have hB7 : Below wc.heap.size wc w7 := Below.grown (w := (wc.alloc (.cells #[.int .i64 1] 3)).drew) (by (repeat (first | (with_reducible assumption) | (with_reducible exact Below.refl _ _) | ((with_reducible refine Below.alloc ?_ ?hsz _); (case hsz => (first | omega | (simp; done) | (simp; omega) | (simp at *; omega)))) | ((with_reducible refine Below.setCell ?_ ?hsz _); (case hsz => (first | omega | (simp; done) | (simp; omega) | (simp at *; omega)))) | (with_reducible refine Below.drew ?_) | (with_reducible refine below_drewN ?_ _) | ((with_reducible refine Below.trans ?_ (Below.mono (by with_reducible assumption) ?hsz)); (case hsz => (first | omega | (simp; done) | (simp; omega) | (simp at *; omega))))))) hgr7 (by simp) (fun q hq => by have hq' : wc.heap.size = q := (by injection hq); omega); have hs7 := hB7.size; obtain ⟨bs7, z0, z1, z2, z3⟩ := id bx7; have hI7 : Ints w7 wc.heap.size (.slice (some ⟨g2, 0, none⟩) (1 + M) k2) (1 :: xs) := ⟨by rw [show ((1 : Int) :: xs).length = 1 + M by simp; omega]; exact hown7, by simp [small]; omega⟩)
          | (go_at_call 16; (refine (taken_any ps.length wc.heap.size _ [1 :: xs] _ (by first | exact rows_one _ hI7 hs7 | exact (rows_one _ hI7 hs7).keep (by (repeat (first | (with_reducible assumption) | (with_reducible exact Below.refl _ _) | ((with_reducible refine Below.alloc ?_ ?hsz _); (case hsz => (first | omega | (simp; done) | (simp; omega) | (simp at *; omega)))) | ((with_reducible refine Below.setCell ?_ ?hsz _); (case hsz => (first | omega | (simp; done) | (simp; omega) | (simp at *; omega)))) | (with_reducible refine Below.drew ?_) | (with_reducible refine below_drewN ?_ _) | ((with_reducible refine Below.trans ?_ (Below.mono (by with_reducible assumption) ?hsz)); (case hsz => (first | omega | (simp; done) | (simp; omega) | (simp at *; omega)))))))) (by omega)).mono ?_); rintro e w9 ⟨r9, rfl, hr9, hb9⟩; have bx9 := (bx7.keep (by (repeat (first | (with_reducible assumption) | (with_reducible exact Below.refl _ _) | ((with_reducible refine Below.alloc ?_ ?hsz _); (case hsz => (first | omega | (simp; done) | (simp; omega) | (simp at *; omega)))) | ((with_reducible refine Below.setCell ?_ ?hsz _); (case hsz => (first | omega | (simp; done) | (simp; omega) | (simp at *; omega)))) | (with_reducible refine Below.drew ?_) | (with_reducible refine below_drewN ?_ _) | ((with_reducible refine Below.trans ?_ (Below.mono (by with_reducible assumption) ?hsz)); (case hsz => (first | omega | (simp; done) | (simp; omega) | (simp at *; omega)))))))).keep hb9; obtain ⟨bs9, q0, q1, q2, q3⟩ := id bx9))
      have hb39 : Below wc.heap.size wc w9 := by (repeat (first | (with_reducible assumption) | (with_reducible exact Below.refl _ _) | ((with_reducible refine Below.alloc ?_ ?hsz _); (case hsz => (first | omega | (simp; done) | (simp; omega) | (simp at *; omega)))) | ((with_reducible refine Below.setCell ?_ ?hsz _); (case hsz => (first | omega | (simp; done) | (simp; omega) | (simp at *; omega)))) | (with_reducible refine Below.drew ?_) | (with_reducible refine below_drewN ?_ _) | ((with_reducible refine Below.trans ?_ (Below.mono (by with_reducible assumption) ?hsz)); (case hsz => (first | omega | (simp; done) | (simp; omega) | (simp at *; omega))))))
      have hB9 : Below w1.heap.size w1 w9 := hBc.trans (hb39.mono hBc.size)
      have hlat9 := hlat.keep hb39
      have hlen9 : (takenL ps.length [1 :: xs]).length = ps.length := takenL_len _ _
      obtain ⟨A9, c9, rfl, -, -, -, -⟩ := hr9.form
      rw [hlen9] at hr9 ⊢
      obtain ⟨b9, hr : Ints w9 b9 (.slice A9 ps.length c9) (onesL ps xs)⟩ := (⟨_, hr9⟩ : ∃ b9, Ints w9 b9 (.slice A9 ps.length c9) (onesL ps xs))
      clear hr9 hlen9 hb39 hb9 bx7 hB7 hown7 hgr7 hat7 hlt7 hI7 hsrcA hnews hown bs7 z0 z1 z2 z3 q0 q1 q2 q3 bs9 d0 d1 g0 g1
      obtain ⟨bs9, d0, d1, g0, g1⟩ := id bx9
      have hrot := ring_later (n := z) (ps := ps) (xs := xs) (by omega)
      rw [HRB.out] at hrot
      have HBAL := Lib.hid (fun h : rb = true => ring_bal (n := z) (ps := ps) (xs := xs) (by rw [HRB.out]; exact h))
      have hb99 : Below w9.heap.size w9 w9 := Below.refl _ _
      go_wp2_with fail
      with_reducible refine (ringOk_any z _ _ ps (laterI xs) _ _ _ (hp.keep hB9) hlat9).mono ?_
      rintro e w10 ⟨rfl, hnn⟩
      have bx10 := (bx9).keep hnn
      have hB10 : Below w1.heap.size w1 w10 := by (repeat (first | (with_reducible assumption) | (with_reducible exact Below.refl _ _) | ((with_reducible refine Below.alloc ?_ ?hsz _); (case hsz => (first | omega | (simp; done) | (simp; omega) | (simp at *; omega)))) | ((with_reducible refine Below.setCell ?_ ?hsz _); (case hsz => (first | omega | (simp; done) | (simp; omega) | (simp at *; omega)))) | (with_reducible refine Below.drew ?_) | (with_reducible refine below_drewN ?_ _) | ((with_reducible refine Below.trans ?_ (Below.mono (by with_reducible assumption) ?hsz)); (case hsz => (first | omega | (simp; done) | (simp; omega) | (simp at *; omega))))))
      have hb910 := (hb99).trans (hnn.mono (hb99).size)
      clear hnn
      (try clear d0 d1 g0 g1)
      obtain ⟨bs, d0, d1, g0, g1⟩ := id bx10
      rw [hrot]
      have hrk := hr.keep hb910
      cases rb with
      | false =>
        go_wp2_with fail
        with_reducible refine (alive_any _).mono ?_
        rintro e w11 ⟨rfl, hnn⟩
        have bx11 := (bx10).keep hnn
        have hB11 : Below w1.heap.size w1 w11 := by (repeat (first | (with_reducible assumption) | (with_reducible exact Below.refl _ _) | ((with_reducible refine Below.alloc ?_ ?hsz _); (case hsz => (first | omega | (simp; done) | (simp; omega) | (simp at *; omega)))) | ((with_reducible refine Below.setCell ?_ ?hsz _); (case hsz => (first | omega | (simp; done) | (simp; omega) | (simp at *; omega)))) | (with_reducible refine Below.drew ?_) | (with_reducible refine below_drewN ?_ _) | ((with_reducible refine Below.trans ?_ (Below.mono (by with_reducible assumption) ?hsz)); (case hsz => (first | omega | (simp; done) | (simp; omega) | (simp at *; omega))))))
        clear hnn
        (try clear d0 d1 g0 g1)
        obtain ⟨bs, d0, d1, g0, g1⟩ := id bx11
        go_wp2
        (go_ret; exact ⟨rfl, hBw1.trans (Below.mono (by with_reducible assumption) hBw1.size)⟩)
      | true =>
        go_wp2_with fail
        with_reducible refine (balancedOk_any z _ _ ps (onesL ps xs) _ _ _ (hp.keep hB10) (by exact hrk)).mono ?_
        rintro e w11 ⟨rfl, hnn⟩
        have bx11 := bx10.keep hnn
        have hB11 : Below w1.heap.size w1 w11 := by (repeat (first | (with_reducible assumption) | (with_reducible exact Below.refl _ _) | ((with_reducible refine Below.alloc ?_ ?hsz _); (case hsz => (first | omega | (simp; done) | (simp; omega) | (simp at *; omega)))) | ((with_reducible refine Below.setCell ?_ ?hsz _); (case hsz => (first | omega | (simp; done) | (simp; omega) | (simp at *; omega)))) | (with_reducible refine Below.drew ?_) | (with_reducible refine below_drewN ?_ _) | ((with_reducible refine Below.trans ?_ (Below.mono (by with_reducible assumption) ?hsz)); (case hsz => (first | omega | (simp; done) | (simp; omega) | (simp at *; omega))))))
        clear hnn d0 d1 g0 g1
        obtain ⟨bs11, d0, d1, g0, g1⟩ := id bx11
        rw [HBAL.out trivial]
        go_wp2_with fail
        with_reducible refine (alive_any _).mono ?_
        rintro e w12 ⟨rfl, hnn⟩
        have bx12 := (bx11).keep hnn
        have hB12 : Below w1.heap.size w1 w12 := by (repeat (first | (with_reducible assumption) | (with_reducible exact Below.refl _ _) | ((with_reducible refine Below.alloc ?_ ?hsz _); (case hsz => (first | omega | (simp; done) | (simp; omega) | (simp at *; omega)))) | ((with_reducible refine Below.setCell ?_ ?hsz _); (case hsz => (first | omega | (simp; done) | (simp; omega) | (simp at *; omega)))) | (with_reducible refine Below.drew ?_) | (with_reducible refine below_drewN ?_ _) | ((with_reducible refine Below.trans ?_ (Below.mono (by with_reducible assumption) ?hsz)); (case hsz => (first | omega | (simp; done) | (simp; omega) | (simp at *; omega))))))
        clear hnn
        (try clear d0 d1 g0 g1)
        obtain ⟨bs, d0, d1, g0, g1⟩ := id bx12
        go_wp2
        (go_ret; exact ⟨rfl, hBw1.trans (Below.mono (by with_reducible assumption) hBw1.size)⟩)

set_option maxRecDepth 100000 in
theorem contract (H : Type) (enc : TypeId × Value → H) (W : World) (base : Nat) (args : Array Value) (ds gs : List (DataW H)) (before : List MemPlace)
    (hval : ∀ (j : Nat) t v, Try.f3.params[j]? = some t → args[j]? = some v → Value.okWide Try.prog W .any base t v)
    (hW : DataW.Whole enc Try.prog Try.f3.params.toList Rows.fnRingOkSpec.vars false W args.toList ds gs before) :
    Calls Try.prog 3 args W fun e W' => ∃ v, e = .returned v ∧ Rows.fnRingOkSpec.post enc Try.prog Try.f3 false true false false W args v W' := by
  have hW' := hW
  obtain ⟨p, q, hA0, hV, rfl, hfz, hnd⟩ := hW
  have hA : DataW.TrodAll enc Try.prog W 0 (fun _ => true) true Try.f3.params.toList args.toList ds p := hA0
  rw [Try.params3] at hA hval
  obtain ⟨u0, us0, d0, ds0, p0, q0, hargs, rfl, rfl, g0, k0⟩ := trodAll_cons hA
  obtain ⟨rfl, rfl, rfl⟩ := trodAll_nil k0
  obtain rfl : args = #[u0] := by cases args; simp_all
  obtain ⟨rfl, rfl⟩ := trodVars_none hV
  obtain ⟨m0, e0⟩ := g0
  obtain ⟨s0, l0, f0, hh0⟩ := open_arg_bytes e0
  have f0' := one_of_cells Try.underlying22 (hval 0 _ _ rfl rfl) f0
  subst f0'
  refine (walk _ l0 W hh0).mono fun e W' ⟨he, hb⟩ => ?_
  subst he
  exact ⟨_, rfl, law_post Try.kids Try.full (by rw [Try.params3]; decide) rfl rfl Try.underlying4 hW' rfl rfl rfl hb⟩

set_option maxRecDepth 100000 in
theorem lifted (os : Os) (started : os.Started) (H : Type) (enc : TypeId × Value → H) :
    ReturnsInHanded {} Try.checked os 3 .any (Rows.fnRingOkSpec.pre6 enc Try.prog Try.f3 Rows.fnRingOkRow.domain false) (Rows.fnRingOkSpec.post enc Try.prog Try.f3 false true false false) := by
  refine returnsInHanded_of_change (C := Try.checked) Try.own started (by kernel_rfl) Try.func3
    (ChangeSpec.witness6 (enc := enc) (C := Try.checked) false ⟨#[], #[.slice none 0 0], []⟩ 8 (by kernel_rfl) (by kernel_rfl) (by kernel_rfl) (by kernel_rfl)) ?_
  intro W base args ds gs before hval0 hW _ _
  exact contract H enc W base args ds gs before hval0 hW

theorem proved : Rows.FnRingOkSaid :=
  OpenClaim.holds_of_wide 3 Try.f3 rfl rfl rfl rfl rfl rfl rfl ⟨rfl, rfl, rfl, rfl, rfl⟩ rfl rfl rfl rfl rfl (by kernel_rfl) Try.func3 (by kernel_rfl)
    (of_decide_eq_true (by kernel_rfl)) (by unfold Func.isWrapper; first | (rw [if_pos (by decide +kernel)]; kernel_rfl) | (rw [if_neg (by decide +kernel)]; exact ⟨rfl, rfl⟩))
    (fun os started H enc _ => lifted os started H enc)

end Go.Proofs.Ytlaeckjfjleplaa.lawRingOk
