/- Contracts of the functions of chapter 8 in the program: costsBeside. -/
import Derived.Test.YtaohjhehlkeckaaAV
namespace Go.Proofs.Ytaohjhehlkeckaa
open Go.RowKit

/-- what the operations yield -/
def avV (W : World) (B : Nat) (A1 : Option Addr) (n c1 : Nat) (xs : List Int) (y : Int) (ga gb la lb ca cb ii J kk : Nat) (xa xb : Int) : Nat → Value → World → Prop
  | 0, x, _ => x = .slice A1 n c1
  | 1, x, _ => x = .slice (some ⟨ga, 0, none⟩) la ca
  | 2, x, _ => x = .int .i64 (ii : Int)
  | 3, x, _ => x = .pointer (some ⟨ga, ii, none⟩)
  | 4, x, _ => x = .int .i64 xa
  | 5, x, _ => x = .slice (some ⟨gb, 0, none⟩) lb cb
  | 6, x, _ => x = .int .i64 (kk : Int)
  | 7, x, _ => x = .int .i64 (ii : Int)
  | 8, x, _ => x = .int .i64 (J : Int)
  | 9, x, _ => x = .pointer (some ⟨gb, J, none⟩)
  | 10, x, _ => x = .int .i64 xb
  | 11, x, _ => x = .int .i64 y
  | 12, x, w => ∃ gl : Nat, x = .slice (some ⟨gl, 0, none⟩) 1 1 ∧ W.heap.size ≤ gl ∧ w.heap[gl]? = some (.cells #[.int .i64 y] 3 (0, 0))
  | 13, x, w => ∃ (g2 k2 : Nat), x = .slice (some ⟨g2, 0, none⟩) (n + 1) k2 ∧ w.ownsRow B 3 1 (.slice (some ⟨g2, 0, none⟩) (n + 1) k2) (n + 1) ((xs ++ [y]).map (Value.int .i64)) ∧ W.grownBy w (Value.slice A1 n c1).ownBlock ∧ ((Value.slice A1 n c1).ownBlock = some g2 ∨ W.heap.size ≤ g2)
  | 14, x, w => ∃ (g2 k2 : Nat), x = .slice (some ⟨g2, 0, none⟩) (n + 1) k2 ∧ w.ownsRow B 3 1 (.slice (some ⟨g2, 0, none⟩) (n + 1) k2) (n + 1) ((xs ++ [y]).map (Value.int .i64)) ∧ W.grownBy w (Value.slice A1 n c1).ownBlock ∧ ((Value.slice A1 n c1).ownBlock = some g2 ∨ W.heap.size ≤ g2)
  | _, _, _ => True

set_option maxHeartbeats 8000000 in
set_option maxRecDepth 20000 in
theorem costsBeside_any (v u : Value) (xs ys : List Int) (b b' : Nat) (w : World) (hx : Ints w b v xs) (hy : Ints w b' u ys) (hx0 : 0 < xs.length) (hy0 : 0 < ys.length) (hx29 : xs.length ≤ 29) (hy29 : ys.length ≤ 29) (ha : bdL 252 xs) (ha2 : bdL 252 ys) :
    Calls Try.prog 67 #[v, u] w fun e w' => ∃ r, e = .returned r ∧ Ints w' w.heap.size r (besideL xs ys) ∧ Below w.heap.size w w' := by
  obtain ⟨A, ca, rfl, hc1, hc2, hs, -⟩ := hx.form
  obtain ⟨A', cb, rfl, hc1', hc2', hs', -⟩ := hy.form
  obtain ⟨ga, rfl, hga1, hga2, -, -, hcA⟩ := own_at' hx hx0
  obtain ⟨gb, rfl, hgb1, hgb2, -, -, hcB⟩ := own_at' hy hy0
  unfold maxLen at hc2 hc2'
  have HCA := Lib.hid hcA
  have HCB := Lib.hid hcB
  obtain ⟨LX, hLX⟩ : ∃ L, xs.length = L := ⟨_, rfl⟩
  obtain ⟨LY, hLY⟩ : ∃ L, ys.length = L := ⟨_, rfl⟩
  have HL := Lib.hid (And.intro hLX hLY)
  rw [hLX] at hc1 hs hx0 hx29 ⊢
  rw [hLY] at hc1' hs' hy0 hy29 ⊢
  have HBA := Lib.hid ha
  have HBB := Lib.hid ha2
  clear hLX hLY hx hy hcA hcB ha ha2
  obtain ⟨i0, hi0, hz0, hz1, hz2⟩ := info_parts int_info
  obtain ⟨N, hN1, hN2⟩ : ∃ N : Nat, N + 1 ≤ LX + LY ∧ LX + LY ≤ N + 1 := ⟨LX + LY - 1, by omega, by omega⟩
  have HBL := Lib.hid (show (besideL xs ys).length = N by have := HL.out; simp [besideL]; omega)
  have hmk := fun W => run_make_ints (n := N) (by omega) W
  have hwN : IntKind.i64.wrap ((LX : Int) + (LY : Int) - 1) = (N : Int) := by rw [IntWalk.i64_in _ (by omega)]; omega
  have hwN2 : RowKit.wrap64 ((LX : Int) + (LY : Int) - 1) = (N : Int) := by rw [IntWalk.wrap64_in _ (by omega)]; omega
  go_enter Try.func67, Try.ntmps67
  go_wp2
  clear hwN hwN2 hmk
  go_loopw [18] (fun q wr => ∃ (k : Nat) (zs : List Int), k ≤ N ∧ q = .int .i64 k ∧ zs.length = N ∧ zs.take k = (besideL xs ys).take k ∧
      wr.ownsRow w.heap.size 3 1 (.slice (some ⟨w.heap.size, 0, none⟩) N N) N (zs.map (Value.int .i64)) ∧ Below w.heap.size w wr) (fun q _ => N - (intOf q).toNat)
  case atStart => exact ⟨0, List.replicate N 0, by omega, rfl, by simp, by simp, made_ints w N _ _ (Nat.le_refl _) (by omega), by (repeat (first | (with_reducible assumption) | (with_reducible exact Below.refl _ _) | ((with_reducible refine Below.alloc ?_ ?hsz _); (case hsz => (first | omega | (simp; done) | (simp; omega) | (simp at *; omega)))) | ((with_reducible refine Below.setCell ?_ ?hsz _); (case hsz => (first | omega | (simp; done) | (simp; omega) | (simp at *; omega)))) | (with_reducible refine Below.drew ?_) | (with_reducible refine below_drewN ?_ _) | ((with_reducible refine Below.trans ?_ (Below.mono (by with_reducible assumption) ?hsz)); (case hsz => (first | omega | (simp; done) | (simp; omega) | (simp at *; omega))))))⟩
  case round =>
    obtain ⟨k, zs, hk, rfl, hzl, hzk, hownz, hbz⟩ := hrel
    have hzr := hbz.size
    obtain ⟨W0, hW0⟩ : ∃ W, W = wr := ⟨_, rfl⟩
    subst hW0
    have hga : ga < W0.heap.size := by omega
    have hgb : gb < W0.heap.size := by omega
    have hbz' : Below w.heap.size w W0 := hbz
    by_cases hlt : k < N
    · have HW := Lib.hid (And.intro (ways_ne (a := xs) (b := ys) (n := k) (by have := HL.out; omega) (by have := HL.out; omega) (by have := HL.out; omega)) (And.intro (ways_bd HBA.out HBB.out (by omega) (by omega) k) (And.intro (ways_len xs ys k) (fun j hj => ways_at (a := xs) (b := ys) (n := k) (j := j) hj))))
      have HS := Lib.hid (show (besideL xs ys)[k]? = some (lowL (waysL xs ys k)) by rw [List.getElem?_eq_getElem (by have := HBL.out; omega)]; simp [besideL])
      have HC := Lib.hid (And.intro hzl (And.intro hzk (And.intro hownz hbz)))
      clear hzl hzk hownz
      obtain ⟨z, o0⟩ : ∃ z : Int, W0.cell? ⟨w.heap.size, k, none⟩ = some (.int .i64 z) := ⟨zs[k]'(by have := HC.out.1; omega), by
        rw [HC.out.2.2.1.cellAt k (by omega)]; simp [HC.out.1, hlt]⟩
      have o1 := HC.out.2.2.1.frozenAt k
      have o2 := (HC.out.2.2.1.lt _ rfl).2
      generalize hWL : waysL xs ys k = W at *
      clear hWL
      obtain ⟨WN, hWN⟩ : ∃ n, W.length = n := ⟨_, rfl⟩
      obtain ⟨lo, hlo⟩ : ∃ lo, lo = k + 1 - LY := ⟨_, rfl⟩
      have hlo1 : k + 1 ≤ lo + LY := by omega
      have hlo2 : lo + LY ≤ k + 1 ∨ lo ≤ 0 := by omega
      have hW1 : WN + lo ≤ k + 1 ∧ WN + lo ≤ LX ∧ (k + 1 ≤ WN + lo ∨ LX ≤ WN + lo) ∧ 0 < WN := by
        have h1 := HW.out.2.2.1
        have h2 := HL.out
        have h3 : 0 < W.length := by have := HW.out.1; cases hh : W with | nil => exact absurd hh this | cons => simp
        omega
      obtain ⟨hW1, hW2, hW3, hW4⟩ := hW1
      have HWN := Lib.hid (And.intro hWN hlo)
      clear hWN hlo
      by_cases hkl : k + 1 ≤ LY
      all_goals
        go_wp2
        go_loopw [8, 7] (fun q t wr => ∃ (jj ii c1 : Nat) (A1 : Option Addr), jj ≤ WN ∧ q = .int .i64 ii ∧ t = .slice A1 jj c1 ∧ ii ≤ lo + jj ∧ lo + jj ≤ ii ∧
            wr.ownsRow W0.heap.size 3 1 (.slice A1 jj c1) jj ((W.take jj).map (Value.int .i64)) ∧ Below W0.heap.size W0 wr) (fun q _ _ => LX - (intOf q).toNat)
        case atStart => exact ⟨0, lo, 0, none, by omega, by first | rfl | exact congrArg (Value.int .i64) (by omega), rfl, by omega, by omega, World.ownsRow_nil _ _ _ 1, Below.refl _ _⟩
        case round =>
          obtain ⟨jj, ii, c1, A1, hj, rfl, rfl, hi1, hi2, hown, hb9⟩ := hrel
          have hz9 := hb9.size
          have hBW : W0.heap.size ≤ wr.heap.size := hz9
          by_cases hin : jj < WN
          · obtain ⟨J, hJ1, hJ2⟩ : ∃ J : Nat, J + ii ≤ k ∧ k ≤ J + ii := ⟨k - ii, by omega, by omega⟩
            have hinW : jj < W.length := by have := HWN.out.1; omega
            have hWj := HW.out.2.2.2 jj hinW
            have e1 : k + 1 - ys.length + jj = ii := by have h2 := HL.out; have h3 := HWN.out.2; omega
            have e2 : k - ii = J := by omega
            rw [e1, e2] at hWj
            have ea := (hb9.cell (p := ⟨ga, ii, none⟩) hga).trans (HCA.out W0 hbz' ii (by have := HL.out; omega))
            have eb := (hb9.cell (p := ⟨gb, J, none⟩) hgb).trans (HCB.out W0 hbz' J (by have := HL.out; omega))
            have ba := bdL_getD HBA.out (by omega) ii
            have bb := bdL_getD HBB.out (by omega) J
            have hga9 : ga < wr.heap.size := by omega
            have hgb9 : gb < wr.heap.size := by omega
            have HT := Lib.hid (show W.take (jj + 1) = W.take jj ++ [xs.getD ii 0 + ys.getD J 0] by rw [List.take_succ_eq_append_getElem hinW, hWj])
            generalize xs.getD ii 0 = xa at *
            generalize ys.getD J 0 = xb at *
            clear e1 e2 hWj o0 o1 hinW
            by_cases hkx : (k : Int) ≤ (LX : Int) - 1
            all_goals
              go_wp2_with fail
              refine wp_region_flowL 14 (some 7) [(0, 36), (1, 37), (2, 38), (3, 39), (4, 40), (5, 41), (6, 42), (7, 43), (8, 44), (9, 45), (10, 46), (11, 47), (12, 48), (13, 49)] (fun j x _ wx => avV wr (W0.heap.size) A1 jj c1 (W.take jj) ((xa + xb)) ga gb LX LY ca cb ii J k xa xb j x wx) (fun i wx wy => if i = 13 then True else Below wx.heap.size wx wy) (fun f wx => 2 ≤ f → Below wr.heap.size wr wx) (by kernel_rfl) (by kernel_rfl) rfl (fun _ => ⟨rfl, rfl, rfl, Nat.le_refl _, fun _ _ => rfl⟩) ?_ ?_ ?_ ?_
              · intro i j hi hj hal x u wa wb hR hV
                have hj' : j < 15 := hj
                by_cases n19 : i = 13
                · subst n19
                  rcases j with _ | _ | _ | _ | _ | _ | _ | _ | _ | _ | _ | _ | _ | _ | _ | j
                  all_goals first | exact hV | (exfalso; revert hal; decide) | (exfalso; omega)
                · have hbb : Below wa.heap.size wa wb := by
                    by_cases h : i = 13
                    · exact absurd h n19
                    · simpa [h] using hR
                  rcases j with _ | _ | _ | _ | _ | _ | _ | _ | _ | _ | _ | _ | _ | _ | _ | j
                  all_goals first
                    | exact hV
                    | (exfalso; omega)
                    | (obtain ⟨gl, h1, h2, h3⟩ := hV; exact ⟨gl, h1, h2, heap_keep h3 hbb⟩)
                    | (obtain ⟨g2, k2, h1, h2, h3, h4⟩ := hV; exact ⟨g2, k2, h1, own_keep h2 (Nat.le_refl _) hbb, grow_below h3 hbb, h4⟩)
              · exact fun _ _ _ _ _ _ _ h => h
              · simp (maxSteps := 4000000) only [eachOp, fillF, List.setIfInBounds_toArray, List.set_cons_succ, List.set_cons_zero]
                refine ⟨?_, ?_, ?_, ?_, ?_, ?_, ?_, ?_, ?_, ?_, ?_, ?_, ?_, ?_, ?_, trivial⟩ <;> intro u f wx hC hd hf <;> (try simp [allV, useOf, Region.binds] at hd)
                · have hf1 : 2 ≤ f := Nat.le_trans (by decide) hf.1
                  have hB := hC (by omega)
                  clear hf
                  have hBz := hB.size
                  go_wp2
                  first | exact ⟨_, rfl, rfl, Below.refl _ _, fun _ => hB⟩ | exact ⟨_, rfl, rfl, Below.refl _ _, hB⟩
                · have hf1 : 2 ≤ f := Nat.le_trans (by decide) hf.1
                  have hB := hC (by omega)
                  clear hf
                  have hBz := hB.size
                  go_wp2
                  first | exact ⟨_, rfl, rfl, Below.refl _ _, fun _ => hB⟩ | exact ⟨_, rfl, rfl, Below.refl _ _, hB⟩
                · have hf1 : 2 ≤ f := Nat.le_trans (by decide) hf.1
                  have hB := hC (by omega)
                  clear hf
                  have hBz := hB.size
                  go_wp2
                  first | exact ⟨_, rfl, rfl, Below.refl _ _, fun _ => hB⟩ | exact ⟨_, rfl, rfl, Below.refl _ _, hB⟩
                · rw [show u 1 = _ from (by first | exact hd | exact hd.1 | exact hd.2 | exact hd.2.1 | exact hd.2.2 | exact hd.2.2.1 | exact hd.2.2.2 | exact hd.2.2.2.1 | exact hd.2.2.2.2), show u 2 = _ from (by first | exact hd | exact hd.1 | exact hd.2 | exact hd.2.1 | exact hd.2.2 | exact hd.2.2.1 | exact hd.2.2.2 | exact hd.2.2.2.1 | exact hd.2.2.2.2)]
                  have hf1 : 2 ≤ f := Nat.le_trans (by decide) hf.1
                  have hB := hC (by omega)
                  clear hf
                  have hBz := hB.size
                  go_wp2
                  first | exact ⟨_, rfl, rfl, Below.refl _ _, fun _ => hB⟩ | exact ⟨_, rfl, rfl, Below.refl _ _, hB⟩
                · rw [show u 3 = _ from (by first | exact hd | exact hd.1 | exact hd.2 | exact hd.2.1 | exact hd.2.2 | exact hd.2.2.1 | exact hd.2.2.2 | exact hd.2.2.2.1 | exact hd.2.2.2.2)]
                  have hf1 : 2 ≤ f := Nat.le_trans (by decide) hf.1
                  have hB := hC (by omega)
                  clear hf
                  have hBz := hB.size
                  have e0 := (hB.cell (p := ⟨ga, ii, none⟩) hga9).trans ea
                  go_wp2
                  first | exact ⟨_, rfl, rfl, Below.refl _ _, fun _ => hB⟩ | exact ⟨_, rfl, rfl, Below.refl _ _, hB⟩
                · have hf1 : 2 ≤ f := Nat.le_trans (by decide) hf.1
                  have hB := hC (by omega)
                  clear hf
                  have hBz := hB.size
                  go_wp2
                  first | exact ⟨_, rfl, rfl, Below.refl _ _, fun _ => hB⟩ | exact ⟨_, rfl, rfl, Below.refl _ _, hB⟩
                · have hf1 : 2 ≤ f := Nat.le_trans (by decide) hf.1
                  have hB := hC (by omega)
                  clear hf
                  have hBz := hB.size
                  go_wp2
                  first | exact ⟨_, rfl, rfl, Below.refl _ _, fun _ => hB⟩ | exact ⟨_, rfl, rfl, Below.refl _ _, hB⟩
                · have hf1 : 2 ≤ f := Nat.le_trans (by decide) hf.1
                  have hB := hC (by omega)
                  clear hf
                  have hBz := hB.size
                  go_wp2
                  first | exact ⟨_, rfl, rfl, Below.refl _ _, fun _ => hB⟩ | exact ⟨_, rfl, rfl, Below.refl _ _, hB⟩
                · rw [show u 6 = _ from (by first | exact hd | exact hd.1 | exact hd.2 | exact hd.2.1 | exact hd.2.2 | exact hd.2.2.1 | exact hd.2.2.2 | exact hd.2.2.2.1 | exact hd.2.2.2.2), show u 7 = _ from (by first | exact hd | exact hd.1 | exact hd.2 | exact hd.2.1 | exact hd.2.2 | exact hd.2.2.1 | exact hd.2.2.2 | exact hd.2.2.2.1 | exact hd.2.2.2.2)]
                  have hf1 : 2 ≤ f := Nat.le_trans (by decide) hf.1
                  have hB := hC (by omega)
                  clear hf
                  have hBz := hB.size
                  have hw1 : IntKind.i64.wrap ((k : Int) - (ii : Int)) = (J : Int) := by rw [IntWalk.i64_in _ (by omega)]; omega
                  have hw2 : RowKit.wrap64 ((k : Int) - (ii : Int)) = (J : Int) := by rw [IntWalk.wrap64_in _ (by omega)]; omega
                  go_wp2
                  first | exact ⟨_, rfl, rfl, Below.refl _ _, fun _ => hB⟩ | exact ⟨_, rfl, rfl, Below.refl _ _, hB⟩
                · rw [show u 5 = _ from (by first | exact hd | exact hd.1 | exact hd.2 | exact hd.2.1 | exact hd.2.2 | exact hd.2.2.1 | exact hd.2.2.2 | exact hd.2.2.2.1 | exact hd.2.2.2.2), show u 8 = _ from (by first | exact hd | exact hd.1 | exact hd.2 | exact hd.2.1 | exact hd.2.2 | exact hd.2.2.1 | exact hd.2.2.2 | exact hd.2.2.2.1 | exact hd.2.2.2.2)]
                  have hf1 : 2 ≤ f := Nat.le_trans (by decide) hf.1
                  have hB := hC (by omega)
                  clear hf
                  have hBz := hB.size
                  go_wp2
                  first | exact ⟨_, rfl, rfl, Below.refl _ _, fun _ => hB⟩ | exact ⟨_, rfl, rfl, Below.refl _ _, hB⟩
                · rw [show u 9 = _ from (by first | exact hd | exact hd.1 | exact hd.2 | exact hd.2.1 | exact hd.2.2 | exact hd.2.2.1 | exact hd.2.2.2 | exact hd.2.2.2.1 | exact hd.2.2.2.2)]
                  have hf1 : 2 ≤ f := Nat.le_trans (by decide) hf.1
                  have hB := hC (by omega)
                  clear hf
                  have hBz := hB.size
                  have e0 := (hB.cell (p := ⟨gb, J, none⟩) hgb9).trans eb
                  go_wp2
                  first | exact ⟨_, rfl, rfl, Below.refl _ _, fun _ => hB⟩ | exact ⟨_, rfl, rfl, Below.refl _ _, hB⟩
                · rw [show u 4 = _ from (by first | exact hd | exact hd.1 | exact hd.2 | exact hd.2.1 | exact hd.2.2 | exact hd.2.2.1 | exact hd.2.2.2 | exact hd.2.2.2.1 | exact hd.2.2.2.2), show u 10 = _ from (by first | exact hd | exact hd.1 | exact hd.2 | exact hd.2.1 | exact hd.2.2 | exact hd.2.2.1 | exact hd.2.2.2 | exact hd.2.2.2.1 | exact hd.2.2.2.2)]
                  have hf1 : 2 ≤ f := Nat.le_trans (by decide) hf.1
                  have hB := hC (by omega)
                  clear hf
                  have hBz := hB.size
                  have hw : IntKind.i64.wrap (xa + xb) = xa + xb := IntWalk.i64_in _ (by omega)
                  have hw2 : RowKit.wrap64 (xa + xb) = xa + xb := IntWalk.wrap64_in _ (by omega)
                  go_wp2
                  first | exact ⟨_, rfl, rfl, Below.refl _ _, fun _ => hB⟩ | exact ⟨_, rfl, rfl, Below.refl _ _, hB⟩
                · rw [show u 11 = _ from (by first | exact hd | exact hd.1 | exact hd.2 | exact hd.2.1 | exact hd.2.2 | exact hd.2.2.1 | exact hd.2.2.2 | exact hd.2.2.2.1 | exact hd.2.2.2.2)]
                  have hB := hC (Nat.le_trans (Nat.le_trans (by decide : 2 ≤ 2) (Nat.succ_le_succ (Nat.le_trans (by decide : 1 ≤ _) hf.1))) (Nat.le_refl _))
                  clear hf
                  have hBz := hB.size
                  go_wp2
                  exact ⟨_, rfl, ⟨wx.heap.size, rfl, hBz, heap_alloc_new _ _⟩, (Below.refl _ _).alloc (Nat.le_refl _) _, fun _ => hB.alloc hBz _⟩
                · rw [show u 0 = _ from (by first | exact hd | exact hd.1 | exact hd.2 | exact hd.2.1 | exact hd.2.2 | exact hd.2.2.1 | exact hd.2.2.2 | exact hd.2.2.2.1 | exact hd.2.2.2.2)]
                  have hf1 : 1 ≤ f := Nat.le_trans (by decide) hf.1
                  have hf2 : f ≤ 1 := Nat.le_trans hf.2 (by decide)
                  clear hf
                  have hB := hC (by omega)
                  have hBz := hB.size
                  obtain ⟨gl, h18, hgl, hhl⟩ : ∃ gl : Nat, u 12 = .slice (some ⟨gl, 0, none⟩) 1 1 ∧ wr.heap.size ≤ gl ∧ wx.heap[gl]? = some (.cells #[.int .i64 (xa + xb)] 3 (0, 0)) := (by first | exact hd.1 | exact hd.2)
                  rw [h18]
                  have hownx := own_keep hown (Nat.le_refl _) hB
                  have hlx := hown.lt
                  refine wpList_append_lies _ rfl _ _ 34 rfl W0.heap.size 3 i0 _ 1 8 Try.underlying34 hi0 hz0 hz1 hz2 rfl (by omega) _ jj _ rfl hownx ⟨gl, 0, none⟩ 1 1 [.int .i64 (xa + xb)] rfl rfl (World.news_of_block hhl) (by simp [Value.oneCell']) (by omega) (by unfold maxLen; omega) (by omega) (by omega) _ rfl ?_
                  intro g2 k2 w7 hown7 hgr7 hat7 hlt7
                  have hb7 := grow_more (grow_of hB (Value.slice A1 jj c1).ownBlock) hgr7 (fun q hq => .inr hq)
                  have hat8 : (Value.slice A1 jj c1).ownBlock = some g2 ∨ wr.heap.size ≤ g2 := hat7.imp id (fun h => by omega)
                  refine wpList_nil ⟨_, rfl, ⟨g2, k2, rfl, by rw [List.map_append]; exact hown7, hb7, hat8⟩, trivial, fun h => absurd h (by omega)⟩
                · clear hf
                  obtain ⟨g2, k2, h19, hR2⟩ : ∃ (g2 k2 : Nat), u 13 = .slice (some ⟨g2, 0, none⟩) (jj + 1) k2 ∧ wx.ownsRow W0.heap.size 3 1 (.slice (some ⟨g2, 0, none⟩) (jj + 1) k2) (jj + 1) (((W.take jj) ++ [(xa + xb)]).map (Value.int .i64)) ∧ wr.grownBy wx (Value.slice A1 jj c1).ownBlock ∧ ((Value.slice A1 jj c1).ownBlock = some g2 ∨ wr.heap.size ≤ g2) := hd
                  rw [h19]
                  go_wp2
                  first | exact ⟨_, rfl, ⟨g2, k2, rfl, hR2⟩, Below.refl _ _, fun h => hC (by omega)⟩ | exact ⟨_, rfl, ⟨g2, k2, rfl, hR2⟩, Below.refl _ _, hC (by omega)⟩
              · intro u f wx hC hfin
                simp only [fillEnd, fillF, Act.put, List.setIfInBounds_toArray, List.set_cons_succ, List.set_cons_zero]
                obtain ⟨g2, k2, h20, hown9, hgr9, hat9⟩ : ∃ (g2 k2 : Nat), u 14 = .slice (some ⟨g2, 0, none⟩) (jj + 1) k2 ∧ wx.ownsRow W0.heap.size 3 1 (.slice (some ⟨g2, 0, none⟩) (jj + 1) k2) (jj + 1) (((W.take jj) ++ [(xa + xb)]).map (Value.int .i64)) ∧ wr.grownBy wx (Value.slice A1 jj c1).ownBlock ∧ ((Value.slice A1 jj c1).ownBlock = some g2 ∨ wr.heap.size ≤ g2) := hfin 14 (by decide) (by decide)
                rw [h20]
                clear hC hfin
                have hbn : Below W0.heap.size W0 wx := Below.grown hb9 hgr9 hBW (fun q hq => (hown.lt q hq).1)
                have HF := Lib.hid (And.intro hown9 hbn)
                clear hown9 hbn hgr9 hat9
                go_wp2
                go_roundw
                case rel => exact ⟨jj + 1, ii + 1, k2, some ⟨g2, 0, none⟩, by omega, by go_num, rfl, by omega, by omega, by rw [HT.out]; exact HF.out.1, HF.out.2⟩
                case measure => simp [intOf] <;> omega
          · have hjW : jj = WN := by omega
            subst hjW
            rw [List.take_of_length_le (by have := HWN.out.1; omega)] at hown
            have hI : Ints wr W0.heap.size (.slice A1 jj c1) W := by
              have h1 := HWN.out.1
              refine ⟨by rw [h1]; exact hown, by rw [h1]; unfold small; omega⟩
            have hpos : 0 < W.length := by have := HWN.out.1; omega
            have HI := Lib.hid (And.intro hI hpos)
            clear hown hI hpos
            by_cases hkx : (k : Int) ≤ (LX : Int) - 1
            all_goals
              go_wp2_with fail
              refine (minInts_any _ W _ _ HI.out.1 HI.out.2).mono ?_
              rintro e w7 ⟨rfl, hb7⟩
              have hb8 : Below W0.heap.size W0 w7 := hb9.trans (hb7.mono hz9)
              have o07 := (hb8.cell (p := ⟨w.heap.size, k, none⟩) o2).trans o0
              have o17 := (hb8.frozen (p := ⟨w.heap.size, k, none⟩) o2).trans o1
              have hz8 := hb8.size
              have o27 : w.heap.size < w7.heap.size := by omega
              have hst := (own_keep HC.out.2.2.1 (Nat.le_refl _) hb8).stored k (.int .i64 (lowL W))
              have hbn : Below w.heap.size w w7 := HC.out.2.2.2.trans (hb8.mono hzr)
              have HF := Lib.hid (And.intro hst.1 hbn)
              clear hst hbn hb7 hb8 o0 o1
              generalize lowL W = y at *
              go_wp2
              go_roundw
              case rel => exact ⟨k + 1, zs.set k y, by omega, by go_num, by simpa using HC.out.1, set_take (by have := HC.out.1; omega) HC.out.2.1 HS.out, by rw [List.map_set]; exact HF.out.1, HF.out.2.setCell (Nat.le_refl _) _⟩
              case measure => simp [intOf] <;> omega
    · have hk2 : k = N := by omega
      subst hk2
      have hz : zs = besideL xs ys := by
        rw [List.take_of_length_le (by omega), List.take_of_length_le (by rw [HBL.out]; exact Nat.le_refl _)] at hzk
        exact hzk
      subst hz
      have HO := Lib.hid hownz
      clear hownz hzk
      go_wp2
      go_ret
      exact ⟨_, rfl, ⟨by rw [HBL.out]; exact HO.out, by rw [HBL.out]; unfold small; omega⟩, by (repeat (first | (with_reducible assumption) | (with_reducible exact Below.refl _ _) | ((with_reducible refine Below.alloc ?_ ?hsz _); (case hsz => (first | omega | (simp; done) | (simp; omega) | (simp at *; omega)))) | ((with_reducible refine Below.setCell ?_ ?hsz _); (case hsz => (first | omega | (simp; done) | (simp; omega) | (simp at *; omega)))) | (with_reducible refine Below.drew ?_) | (with_reducible refine below_drewN ?_ _) | ((with_reducible refine Below.trans ?_ (Below.mono (by with_reducible assumption) ?hsz)); (case hsz => (first | omega | (simp; done) | (simp; omega) | (simp at *; omega))))))⟩


end Go.Proofs.Ytaohjhehlkeckaa
