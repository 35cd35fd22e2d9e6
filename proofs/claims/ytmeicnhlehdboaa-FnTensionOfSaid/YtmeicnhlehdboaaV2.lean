/- Contracts of the functions of chapter 4 in the program: the nodes along a walk. -/
import Derived.Test.YtmeicnhlehdboaaV1
namespace Go.Proofs.Ytmeicnhlehdboaa
open Go.RowKit

theorem take_getD {L : List Int} {j : Nat} (h : j < L.length) : L.take (j + 1) = L.take j ++ [L.getD j 0] := by
  rw [List.take_succ_eq_append_getElem h]
  simp [List.getD_eq_getElem?_getD, h]

set_option maxHeartbeats 1000000 in
set_option maxRecDepth 20000 in
theorem indexPre_any (x : Int) (g k c : Nat) (L : List Int) (w : World) (hL : ∀ j, j < k → w.cell? ⟨g, j, none⟩ = some (.int .i64 (L.getD j 0))) (hg : g < w.heap.size) (hk : k ≤ L.length) (hk6 : k ≤ 6) (hc : k ≤ c) (hc2 : c ≤ maxLen) :
    Calls Try.prog 66 #[.slice (some ⟨g, 0, none⟩) k c, .int .i64 x] w fun e w' => ∃ r : Int, e = .returned (.int .i64 r) ∧ ((r = -1 ∧ x ∉ L.take k) ∨ (∃ j : Nat, r = (j : Int) ∧ j < k ∧ L.getD j 0 = x ∧ x ∉ L.take j)) ∧ Below w.heap.size w w' := by
  unfold maxLen at hc2
  have HL := Lib.hid hL
  clear hL
  go_enter Try.func66, Try.ntmps66
  go_wp2
  go_loopw [8] (fun i wr => ∃ j : Nat, j ≤ k ∧ i = .int .i64 j ∧ x ∉ L.take j ∧ Below w.heap.size w wr) (fun i _ => k - (intOf i).toNat)
  case atStart => exact ⟨0, by omega, rfl, by simp, Below.refl _ _⟩
  case round =>
    obtain ⟨j, hj, rfl, hall, hb⟩ := hrel
    have Hall := Lib.hid hall
    clear hall
    have hzb := hb.size
    by_cases hlt : j < k
    · have cx := (hb.cell (p := ⟨g, j, none⟩) hg).trans (HL.out j hlt)
      have hjl : j < L.length := by omega
      have Ht := Lib.hid (take_getD hjl)
      generalize hy : L.getD j 0 = y at *
      have hgr : g < wr.heap.size := by omega
      by_cases hxy : x = y
      · have hxb : (x == y) = true := by simpa using hxy
        have Hy := Lib.hid (And.intro hy hxy)
        clear hxy hy
        go_wp2
        go_ret
        exact ⟨_, rfl, .inr ⟨j, rfl, hlt, by rw [Hy.out.1, Hy.out.2], Hall.out⟩, by (repeat (first | (with_reducible assumption) | (with_reducible exact Below.refl _ _) | ((with_reducible refine Below.alloc ?_ ?hsz _); (case hsz => (first | omega | (simp; done) | (simp; omega) | (simp at *; omega)))) | ((with_reducible refine Below.setCell ?_ ?hsz _); (case hsz => (first | omega | (simp; done) | (simp; omega) | (simp at *; omega)))) | (with_reducible refine Below.drew ?_) | (with_reducible refine below_drewN ?_ _) | ((with_reducible refine Below.trans ?_ (Below.mono (by with_reducible assumption) ?hsz)); (case hsz => (first | omega | (simp; done) | (simp; omega) | (simp at *; omega))))))⟩
      · have hxb : (x == y) = false := by simpa using hxy
        have Hn := Lib.hid (show x ∉ L.take (j + 1) by
          rw [Ht.out, List.mem_append]
          rintro (h | h)
          · exact Hall.out h
          · simp at h; exact hxy h)
        clear hxy hy
        go_wp2
        go_roundw
        case rel => exact ⟨j + 1, by omega, by go_num, Hn.out, by (repeat (first | (with_reducible assumption) | (with_reducible exact Below.refl _ _) | ((with_reducible refine Below.alloc ?_ ?hsz _); (case hsz => (first | omega | (simp; done) | (simp; omega) | (simp at *; omega)))) | ((with_reducible refine Below.setCell ?_ ?hsz _); (case hsz => (first | omega | (simp; done) | (simp; omega) | (simp at *; omega)))) | (with_reducible refine Below.drew ?_) | (with_reducible refine below_drewN ?_ _) | ((with_reducible refine Below.trans ?_ (Below.mono (by with_reducible assumption) ?hsz)); (case hsz => (first | omega | (simp; done) | (simp; omega) | (simp at *; omega))))))⟩
        case measure => simp [intOf]; omega
    · have hjk : j = k := by omega
      subst hjk
      go_wp2
      go_ret
      exact ⟨_, rfl, .inl ⟨rfl, Hall.out⟩, hb⟩

set_option maxHeartbeats 1000000 in
set_option maxRecDepth 20000 in
theorem containsPre_any (x : Int) (g k c : Nat) (L : List Int) (w : World) (hL : ∀ j, j < k → w.cell? ⟨g, j, none⟩ = some (.int .i64 (L.getD j 0))) (hg : g < w.heap.size) (hk : k ≤ L.length) (hk6 : k ≤ 6) (hc : k ≤ c) (hc2 : c ≤ maxLen) :
    Calls Try.prog 45 #[.slice (some ⟨g, 0, none⟩) k c, .int .i64 x] w fun e w' => e = .returned (.bool (decide (x ∈ L.take k))) ∧ Below w.heap.size w w' := by
  have hc2' := hc2
  unfold maxLen at hc2
  go_enter Try.func45, Try.ntmps45
  go_wp2_with fail
  refine (indexPre_any x g k c L _ hL hg hk hk6 hc hc2').mono ?_
  rintro e w1 ⟨r, rfl, hr, hb1⟩
  have hr2 : decide (0 ≤ r) = decide (x ∈ L.take k) := by
    rcases hr with ⟨rfl, h⟩ | ⟨j, rfl, h1, h2, -⟩
    · simp [h]
    · have : x ∈ L.take k := by
        rw [List.mem_take_iff_getElem]
        exact ⟨j, by omega, by rw [← h2]; simp [List.getD_eq_getElem?_getD, show j < L.length by omega]⟩
      simp [this]
  have Hr := Lib.hid hr2
  clear hr hr2
  go_wp2
  go_ret
  exact ⟨by first | exact ret_bool Hr.out | rfl, by (repeat (first | (with_reducible assumption) | (with_reducible exact Below.refl _ _) | ((with_reducible refine Below.alloc ?_ ?hsz _); (case hsz => (first | omega | (simp; done) | (simp; omega) | (simp at *; omega)))) | ((with_reducible refine Below.setCell ?_ ?hsz _); (case hsz => (first | omega | (simp; done) | (simp; omega) | (simp at *; omega)))) | (with_reducible refine Below.drew ?_) | (with_reducible refine below_drewN ?_ _) | ((with_reducible refine Below.trans ?_ (Below.mono (by with_reducible assumption) ?hsz)); (case hsz => (first | omega | (simp; done) | (simp; omega) | (simp at *; omega))))))⟩

end Go.Proofs.Ytmeicnhlehdboaa
