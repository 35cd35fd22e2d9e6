/- Contracts of what the laws use: amounts put together. -/
import Derived.Test.YtlaeckjfjleplaaN2
import Derived.Test.YtlaeckjfjleplaaRW
import Derived.Test.YtlaeckjfjleplaaLA
namespace Go.Proofs.Ytlaeckjfjleplaa
open Go.RowKit

set_option maxHeartbeats 4000000 in
set_option maxRecDepth 20000 in
theorem taken_any (m b : Nat) (v : Value) (Ls : List (List Int)) (w : World) (h : RowsI w b v Ls) (hm : m ≤ 8) :
    Calls Try.prog 16 #[.int .i64 m, v] w fun e w' => ∃ r, e = .returned r ∧ Ints w' w.heap.size r (takenL m Ls) ∧ Below w.heap.size w w' := by
  obtain ⟨A, c, rfl, hc1, hc2, hsm, hcell⟩ := h
  unfold maxLen at hc2
  unfold small at hsm
  have hmk := fun W => run_make_ints (n := m) (by omega) W
  have HC := Lib.hid hcell
  clear hcell
  have hR0 : Row (w.alloc (.cells (madeCells #[.int .i64 0] m) 3)) w.heap.size w.heap.size m m (takenL m (Ls.take 0)) := by
    have h := (Ints_made w (b := w.heap.size) (n := m) (g := w.heap.size) (Nat.le_refl _) (by omega) rfl).1
    rw [List.length_replicate] at h
    exact ⟨h, by unfold small; omega⟩
  go_enter Try.func16, Try.ntmps16
  go_wp2_with fail
  go_loopw [6] (fun t wr => ∃ k : Nat, k ≤ Ls.length ∧ t = .int .i64 k ∧ Row wr w.heap.size w.heap.size m m (takenL m (Ls.take k)) ∧ Below w.heap.size w wr) (fun t _ => Ls.length - (intOf t).toNat)
  case atStart => exact ⟨0, by omega, rfl, hR0, by (repeat (first | (with_reducible assumption) | (with_reducible exact Below.refl _ _) | ((with_reducible refine Below.alloc ?_ ?hsz _); (case hsz => (first | omega | (simp; done) | (simp; omega) | (simp at *; omega)))) | ((with_reducible refine Below.setCell ?_ ?hsz _); (case hsz => (first | omega | (simp; done) | (simp; omega) | (simp at *; omega)))) | (with_reducible refine Below.drew ?_) | (with_reducible refine below_drewN ?_ _) | ((with_reducible refine Below.trans ?_ (Below.mono (by with_reducible assumption) ?hsz)); (case hsz => (first | omega | (simp; done) | (simp; omega) | (simp at *; omega))))))⟩
  case round =>
    clear hR0 hmk
    obtain ⟨k, hk, rfl, hR, hb⟩ := hrel
    have hzb := hb.size
    by_cases hlt : k < Ls.length
    · obtain ⟨g, vk, rfl, hbg, hg, ck0, hL⟩ := HC.out k hlt
      have ck := (hb.cell (p := ⟨g, k, none⟩) hg).trans ck0
      have Hs := Lib.hid (taken_snoc (n := m) hlt)
      generalize hLL : Ls[k] = L at *
      obtain ⟨AL, cL, rfl, hcl1, hcl2, hsl, -⟩ := hL.form
      unfold maxLen at hcl2
      generalize takenL m (Ls.take k) = o at *
      have hgr : g < wr.heap.size := by omega
      have Hck := Lib.hid ck0
      clear hLL ck0
      go_wp2_with fail
      go_loopw [7] (fun t ws => ∃ j : Nat, 1 ≤ j ∧ (j ≤ L.length ∨ j = 1) ∧ t = .int .i64 j ∧ Row ws w.heap.size w.heap.size m m (takeTo m o L j) ∧ Below w.heap.size w ws) (fun t _ => L.length - (intOf t).toNat)
      case atStart => exact ⟨1, by omega, .inr rfl, rfl, by rw [takeTo_one]; exact hR, hb⟩
      case round =>
        clear ck hR hb hgr hzb
        obtain ⟨j, hj1, hjl, rfl, hR, hb⟩ := hrel
        have hzb := hb.size
        have ck := (hb.cell (p := ⟨g, k, none⟩) hg).trans Hck.out
        have hgr : g < wr.heap.size := by omega
        by_cases hlj : j < L.length
        · obtain ⟨gl, rfl, gl1, gl2, cj, -⟩ := hL.cellAt hb j hlj
          obtain ⟨gl', hgl', -, -, c0, -⟩ := hL.cellAt hb 0 (by omega)
          injection hgl' with hgl'
          injection hgl' with hgl'
          subst hgl'
          have hglr : gl < wr.heap.size := by omega
          have Ht := Lib.hid (takeTo_snoc (n := m) (o := o) hj1 hlj)
          have e0 : L.getD 0 0 = L[0]'(by omega) := getD_at (by omega)
          rw [e0] at Ht
          generalize L[0]'(by omega) = a0 at *
          generalize L[j] = x at *
          generalize takeTo m o L j = o' at *
          by_cases hin : 0 ≤ x ∧ x < (m : Int)
          · obtain ⟨q, rfl⟩ : ∃ q : Nat, x = (q : Int) := ⟨x.toNat, by omega⟩
            have hqm : q < m := by omega
            obtain ⟨cq, fq⟩ := hR.at' q hqm
            obtain ⟨og1, og2⟩ := hR.lt
            have Hv := Lib.hid (show take1 m a0 o' (q : Int) = o'.set q (wrap64 (o'.getD q 0 + a0)) by rw [take1, if_pos hin, Int.toNat_natCast])
            generalize o'.getD q 0 = y at *
            clear hin
            go_wp2_with fail
            go_region
            all_goals
              go_wp2
              go_roundw
              case rel => exact ⟨j + 1, by omega, by omega, by go_num, by rw [Ht.out, Hv.out]; exact hR.set q _, by (repeat (first | (with_reducible assumption) | (with_reducible exact Below.refl _ _) | ((with_reducible refine Below.alloc ?_ ?hsz _); (case hsz => (first | omega | (simp; done) | (simp; omega) | (simp at *; omega)))) | ((with_reducible refine Below.setCell ?_ ?hsz _); (case hsz => (first | omega | (simp; done) | (simp; omega) | (simp at *; omega)))) | (with_reducible refine Below.drew ?_) | (with_reducible refine below_drewN ?_ _) | ((with_reducible refine Below.trans ?_ (Below.mono (by with_reducible assumption) ?hsz)); (case hsz => (first | omega | (simp; done) | (simp; omega) | (simp at *; omega))))))⟩
              case measure => simp [intOf]; omega
          · have Hv := Lib.hid (show take1 m a0 o' x = o' by rw [take1, if_neg hin])
            by_cases hx0 : 0 ≤ x
            · have hxd : decide (0 ≤ x) = true := decide_eq_true hx0
              have hxm : decide (x < (m : Int)) = false := decide_eq_false (by omega)
              clear hin hx0
              go_wp2
              go_roundw
              case rel => exact ⟨j + 1, by omega, by omega, by go_num, by rw [Ht.out, Hv.out]; exact hR, by (repeat (first | (with_reducible assumption) | (with_reducible exact Below.refl _ _) | ((with_reducible refine Below.alloc ?_ ?hsz _); (case hsz => (first | omega | (simp; done) | (simp; omega) | (simp at *; omega)))) | ((with_reducible refine Below.setCell ?_ ?hsz _); (case hsz => (first | omega | (simp; done) | (simp; omega) | (simp at *; omega)))) | (with_reducible refine Below.drew ?_) | (with_reducible refine below_drewN ?_ _) | ((with_reducible refine Below.trans ?_ (Below.mono (by with_reducible assumption) ?hsz)); (case hsz => (first | omega | (simp; done) | (simp; omega) | (simp at *; omega))))))⟩
              case measure => simp [intOf]; omega
            · have hxd : decide (0 ≤ x) = false := decide_eq_false hx0
              clear hin hx0
              go_wp2
              go_roundw
              case rel => exact ⟨j + 1, by omega, by omega, by go_num, by rw [Ht.out, Hv.out]; exact hR, by (repeat (first | (with_reducible assumption) | (with_reducible exact Below.refl _ _) | ((with_reducible refine Below.alloc ?_ ?hsz _); (case hsz => (first | omega | (simp; done) | (simp; omega) | (simp at *; omega)))) | ((with_reducible refine Below.setCell ?_ ?hsz _); (case hsz => (first | omega | (simp; done) | (simp; omega) | (simp at *; omega)))) | (with_reducible refine Below.drew ?_) | (with_reducible refine below_drewN ?_ _) | ((with_reducible refine Below.trans ?_ (Below.mono (by with_reducible assumption) ?hsz)); (case hsz => (first | omega | (simp; done) | (simp; omega) | (simp at *; omega))))))⟩
              case measure => simp [intOf]; omega
        · have Hfin := Lib.hid (takeTo_end (n := m) (o := o) (L := L) (j := j) (by omega))
          go_wp2
          go_roundw
          case rel => exact ⟨k + 1, by omega, by go_num, by rw [Hs.out, ← Hfin.out]; exact hR, by (repeat (first | (with_reducible assumption) | (with_reducible exact Below.refl _ _) | ((with_reducible refine Below.alloc ?_ ?hsz _); (case hsz => (first | omega | (simp; done) | (simp; omega) | (simp at *; omega)))) | ((with_reducible refine Below.setCell ?_ ?hsz _); (case hsz => (first | omega | (simp; done) | (simp; omega) | (simp at *; omega)))) | (with_reducible refine Below.drew ?_) | (with_reducible refine below_drewN ?_ _) | ((with_reducible refine Below.trans ?_ (Below.mono (by with_reducible assumption) ?hsz)); (case hsz => (first | omega | (simp; done) | (simp; omega) | (simp at *; omega))))))⟩
          case measure => simp [intOf]; omega
    · have hkl : k = Ls.length := by omega
      subst hkl
      rw [List.take_length] at hR
      go_wp2
      go_ret
      exact ⟨_, rfl, hR.ints, hb⟩

end Go.Proofs.Ytlaeckjfjleplaa
