/- Contracts of the functions of chapter 2 in the program: sides between two nodes, pipes that leave a side. -/
import Derived.Test.YtabkhpeoeihmmaaW7
import Derived.Deep.AppendLies
import Derived.Deep.RegionHeld3
namespace Go.Proofs.Ytabkhpeoeihmmaa
open Go.RowKit

def betwF (a b : Int) (k : Nat) : Bool := partsB (k : Int) a b

set_option maxHeartbeats 400000 in
set_option maxRecDepth 20000 in
theorem sidesFn_any (a b : Int) (k ba bb : Nat) (w : World) (h0 : 0 ≤ a) (h1 : a ≤ 4) (h2 : 0 ≤ b) (h3 : b ≤ 4)
    (d0 : w.cell? ⟨ba, 0, none⟩ = some (.int .i64 a)) (d1 : w.cell? ⟨bb, 0, none⟩ = some (.int .i64 b)) :
    Calls Try.prog 123 #[.int .i64 k, .pointer (some ⟨ba, 0, none⟩), .pointer (some ⟨bb, 0, none⟩)] w fun e w' => e = .returned (.bool (betwF a b k)) ∧ Below w.heap.size w w' := by
  go_enter Try.func123, Try.ntmps123
  go_wp2_with (first
    | (go_at_call 88; ((with_reducible refine (parts_any _ _ _ _ h0 h1 h2 h3).mono ?_); rintro e w1 ⟨rfl, rfl⟩)))
  go_ret
  exact ⟨rfl, by (repeat (first | (with_reducible assumption) | (with_reducible exact Below.refl _ _) | ((with_reducible refine Below.alloc ?_ ?hsz _); (case hsz => (first | omega | (simp; done) | (simp; omega) | (simp at *; omega)))) | ((with_reducible refine Below.setCell ?_ ?hsz _); (case hsz => (first | omega | (simp; done) | (simp; omega) | (simp at *; omega)))) | (with_reducible refine Below.drew ?_) | (with_reducible refine below_drewN ?_ _) | ((with_reducible refine Below.trans ?_ (Below.mono (by with_reducible assumption) ?hsz)); (case hsz => (first | omega | (simp; done) | (simp; omega) | (simp at *; omega))))))⟩

set_option maxHeartbeats 1000000 in
set_option maxRecDepth 20000 in
theorem sidesWhere_any (a b : Int) (cnt ba bb : Nat) (w : World) (hcnt : cnt ≤ 1000) (h0 : 0 ≤ a) (h1 : a ≤ 4) (h2 : 0 ≤ b) (h3 : b ≤ 4) (hba : ba < w.heap.size) (hbb : bb < w.heap.size)
    (d0 : w.cell? ⟨ba, 0, none⟩ = some (.int .i64 a)) (d1 : w.cell? ⟨bb, 0, none⟩ = some (.int .i64 b)) :
    Calls Try.prog 86 #[.int .i64 cnt, .func (Fn.func 123) #[] #[.pointer (some ⟨ba, 0, none⟩), .pointer (some ⟨bb, 0, none⟩)]] w fun e w' => ∃ r, e = .returned r ∧ Ints w' w.heap.size r (numW cnt (betwF a b)) ∧ Below w.heap.size w w' := by
  go_enter Try.func86, Try.ntmps86
  go_wp2
  obtain ⟨i0, hi0, hz0, hz1, hz2⟩ := info_parts int_info
  go_loopw [8, 5] (fun i t wr => ∃ (k j k1 : Nat) (A1 : Option Addr), k ≤ cnt ∧ i = .int .i64 k ∧ t = .slice A1 j k1 ∧ (numW k (betwF a b)).length = j ∧
      wr.ownsRow w.heap.size 3 1 (.slice A1 j k1) j ((numW k (betwF a b)).map (Value.int .i64)) ∧ Below w.heap.size w wr) (fun i _ _ => cnt - (intOf i).toNat)
  case atStart => exact ⟨0, 0, 0, none, by omega, rfl, rfl, rfl, World.ownsRow_nil _ _ _ 1, Below.refl _ _⟩
  case round =>
    obtain ⟨k, j, k1, A1, hk, rfl, rfl, hj, hown, hb⟩ := hrel
    have hjk : j ≤ k := by rw [← hj]; exact numW_len k _
    have HJ := Lib.hid hj
    clear hj
    obtain ⟨hcr, hfr, hzr⟩ := bcell hb
    by_cases hlt : k < cnt
    · by_cases hf : (betwF a b) k = true
      · have Hf := Lib.hid (numW_yes hf)
        go_wp2_with fail
        refine (sidesFn_any a b k ba bb _ h0 h1 h2 h3 (by (repeat (first | (with_reducible assumption) | ((with_reducible refine (Below.cell (by with_reducible assumption) ?hsz).trans ?_); (case hsz => (first | omega | (simp; done) | (simp; omega) | (simp at *; omega)))) | ((with_reducible refine (World.cell?_alloc_lt _ _ _ ?hsz).trans ?_); (case hsz => (first | omega | (simp; done) | (simp; omega) | (simp at *; omega)))) | ((with_reducible refine (World.cell?_setCell_other _ _ _ _ ?hsz).trans ?_); (case hsz => (intro h; injection h with h1 h2; omega)))))) (by (repeat (first | (with_reducible assumption) | ((with_reducible refine (Below.cell (by with_reducible assumption) ?hsz).trans ?_); (case hsz => (first | omega | (simp; done) | (simp; omega) | (simp at *; omega)))) | ((with_reducible refine (World.cell?_alloc_lt _ _ _ ?hsz).trans ?_); (case hsz => (first | omega | (simp; done) | (simp; omega) | (simp at *; omega)))) | ((with_reducible refine (World.cell?_setCell_other _ _ _ _ ?hsz).trans ?_); (case hsz => (intro h; injection h with h1 h2; omega))))))).mono ?_
        rintro e w2 ⟨rfl, hb2⟩
        have hown2 := own_keep hown (Nat.le_refl _) hb2
        have hz2' := hb2.size
        have hbw2 : Below w.heap.size w w2 := by (repeat (first | (with_reducible assumption) | (with_reducible exact Below.refl _ _) | ((with_reducible refine Below.alloc ?_ ?hsz _); (case hsz => (first | omega | (simp; done) | (simp; omega) | (simp at *; omega)))) | ((with_reducible refine Below.setCell ?_ ?hsz _); (case hsz => (first | omega | (simp; done) | (simp; omega) | (simp at *; omega)))) | (with_reducible refine Below.drew ?_) | (with_reducible refine below_drewN ?_ _) | ((with_reducible refine Below.trans ?_ (Below.mono (by with_reducible assumption) ?hsz)); (case hsz => (first | omega | (simp; done) | (simp; omega) | (simp at *; omega))))))
        have hrow : ∀ q, (Value.slice A1 j k1).ownBlock = some q → w.heap.size ≤ q := fun q hq => (hown.lt q hq).1
        clear hown hcr hfr hb hb2
        go_wp2_with (first
          | (at_builtin
             go_must (refine wpList_append_lies _ rfl _ _ 25 rfl w.heap.size 3 i0 _ 1 8 Try.underlying25 hi0 hz0 hz1 hz2 rfl (by omega) _ j _ rfl (hown2.alloc _) ⟨w2.heap.size, 0, none⟩ 1 1 [.int .i64 k] rfl rfl (World.news_of_block (cs := #[.int .i64 k]) (t := 3) (fr := (0, 0)) (heap_alloc_new _ _)) (by simp [Value.oneCell']) (by omega) (by unfold maxLen; omega) (by omega) (by simp; omega) _ rfl ?_)
             intro g2 k2 w7 hown7 hgr7 hat7 hlt7))
        have hb7 : Below w.heap.size w w7 := by
          refine Below.grown (w := w2.alloc (.cells #[.int .i64 k] 3)) (by (repeat (first | (with_reducible assumption) | (with_reducible exact Below.refl _ _) | ((with_reducible refine Below.alloc ?_ ?hsz _); (case hsz => (first | omega | (simp; done) | (simp; omega) | (simp at *; omega)))) | ((with_reducible refine Below.setCell ?_ ?hsz _); (case hsz => (first | omega | (simp; done) | (simp; omega) | (simp at *; omega)))) | (with_reducible refine Below.drew ?_) | (with_reducible refine below_drewN ?_ _) | ((with_reducible refine Below.trans ?_ (Below.mono (by with_reducible assumption) ?hsz)); (case hsz => (first | omega | (simp; done) | (simp; omega) | (simp at *; omega))))))) hgr7 (by (first | omega | (simp; done) | (simp; omega) | (simp at *; omega))) hrow
        have hown8 : w7.ownsRow w.heap.size 3 1 (.slice (some ⟨g2, 0, none⟩) (j + 1) k2) (j + 1) ((numW (k + 1) (betwF a b)).map (Value.int .i64)) := by
          rw [Hf.out, List.map_append]
          simpa using hown7
        have hj8 : (numW (k + 1) (betwF a b)).length = j + 1 := by rw [Hf.out, List.length_append, HJ.out]; rfl
        clear hown7 hgr7 hat7 hlt7
        go_roundw
        case rel => exact ⟨k + 1, j + 1, k2, some ⟨g2, 0, none⟩, by omega, by go_num, rfl, hj8, hown8, hb7⟩
        case measure => simp [intOf]; omega
      · have hf' : (betwF a b) k = false := by simpa using hf
        have Hf := Lib.hid (numW_no hf')
        clear hf
        go_wp2_with fail
        refine (sidesFn_any a b k ba bb _ h0 h1 h2 h3 (by (repeat (first | (with_reducible assumption) | ((with_reducible refine (Below.cell (by with_reducible assumption) ?hsz).trans ?_); (case hsz => (first | omega | (simp; done) | (simp; omega) | (simp at *; omega)))) | ((with_reducible refine (World.cell?_alloc_lt _ _ _ ?hsz).trans ?_); (case hsz => (first | omega | (simp; done) | (simp; omega) | (simp at *; omega)))) | ((with_reducible refine (World.cell?_setCell_other _ _ _ _ ?hsz).trans ?_); (case hsz => (intro h; injection h with h1 h2; omega)))))) (by (repeat (first | (with_reducible assumption) | ((with_reducible refine (Below.cell (by with_reducible assumption) ?hsz).trans ?_); (case hsz => (first | omega | (simp; done) | (simp; omega) | (simp at *; omega)))) | ((with_reducible refine (World.cell?_alloc_lt _ _ _ ?hsz).trans ?_); (case hsz => (first | omega | (simp; done) | (simp; omega) | (simp at *; omega)))) | ((with_reducible refine (World.cell?_setCell_other _ _ _ _ ?hsz).trans ?_); (case hsz => (intro h; injection h with h1 h2; omega))))))).mono ?_
        rintro e w2 ⟨rfl, hb2⟩
        have hown2 := own_keep hown (Nat.le_refl _) hb2
        have hbw2 : Below w.heap.size w w2 := by (repeat (first | (with_reducible assumption) | (with_reducible exact Below.refl _ _) | ((with_reducible refine Below.alloc ?_ ?hsz _); (case hsz => (first | omega | (simp; done) | (simp; omega) | (simp at *; omega)))) | ((with_reducible refine Below.setCell ?_ ?hsz _); (case hsz => (first | omega | (simp; done) | (simp; omega) | (simp at *; omega)))) | (with_reducible refine Below.drew ?_) | (with_reducible refine below_drewN ?_ _) | ((with_reducible refine Below.trans ?_ (Below.mono (by with_reducible assumption) ?hsz)); (case hsz => (first | omega | (simp; done) | (simp; omega) | (simp at *; omega))))))
        clear hown hcr hfr hb hb2
        go_wp2
        go_roundw
        case rel => exact ⟨k + 1, j, k1, A1, by omega, by go_num, rfl, by rw [Hf.out]; exact HJ.out, by rw [Hf.out]; exact hown2, hbw2⟩
        case measure => simp [intOf]; omega
    · go_wp2
      go_ret
      have hk2 : k = cnt := by omega
      subst hk2
      exact ⟨_, rfl, ⟨by rw [HJ.out]; exact hown, by rw [HJ.out]; unfold small; omega⟩, hb⟩

set_option maxHeartbeats 1000000 in
set_option maxRecDepth 20000 in
theorem sidesBetween_any (n a b : Int) (w : World) (hn : n = 2 ∨ n = 3 ∨ n = 4 ∨ n = 5) (h0 : 0 ≤ a) (h1 : a ≤ 4) (h2 : 0 ≤ b) (h3 : b ≤ 4) :
    Calls Try.prog 84 #[.int .i64 n, .int .i64 a, .int .i64 b] w fun e w' => ∃ r, e = .returned r ∧ Ints w' w.heap.size r (sidesL n a b) ∧ Below w.heap.size w w' := by
  rcases hn with rfl | rfl | rfl | rfl
  · go_enter Try.func84, Try.ntmps84
    go_wp2_with fail
    refine (sidesWhere_any a b 4 _ _ _ (by omega) h0 h1 h2 h3 (by (first | omega | (simp; done) | (simp; omega) | (simp at *; omega))) (by (first | omega | (simp; done) | (simp; omega) | (simp at *; omega))) (by go_simp) (by go_simp)).mono ?_
    rintro e w1 ⟨r, rfl, hr, hb1⟩
    go_wp2
    go_ret
    exact ⟨_, rfl, hr.mono (by (first | omega | (simp; done) | (simp; omega) | (simp at *; omega))), by (repeat (first | (with_reducible assumption) | (with_reducible exact Below.refl _ _) | ((with_reducible refine Below.alloc ?_ ?hsz _); (case hsz => (first | omega | (simp; done) | (simp; omega) | (simp at *; omega)))) | ((with_reducible refine Below.setCell ?_ ?hsz _); (case hsz => (first | omega | (simp; done) | (simp; omega) | (simp at *; omega)))) | (with_reducible refine Below.drew ?_) | (with_reducible refine below_drewN ?_ _) | ((with_reducible refine Below.trans ?_ (Below.mono (by with_reducible assumption) ?hsz)); (case hsz => (first | omega | (simp; done) | (simp; omega) | (simp at *; omega))))))⟩
  · go_enter Try.func84, Try.ntmps84
    go_wp2_with fail
    refine (sidesWhere_any a b 8 _ _ _ (by omega) h0 h1 h2 h3 (by (first | omega | (simp; done) | (simp; omega) | (simp at *; omega))) (by (first | omega | (simp; done) | (simp; omega) | (simp at *; omega))) (by go_simp) (by go_simp)).mono ?_
    rintro e w1 ⟨r, rfl, hr, hb1⟩
    go_wp2
    go_ret
    exact ⟨_, rfl, hr.mono (by (first | omega | (simp; done) | (simp; omega) | (simp at *; omega))), by (repeat (first | (with_reducible assumption) | (with_reducible exact Below.refl _ _) | ((with_reducible refine Below.alloc ?_ ?hsz _); (case hsz => (first | omega | (simp; done) | (simp; omega) | (simp at *; omega)))) | ((with_reducible refine Below.setCell ?_ ?hsz _); (case hsz => (first | omega | (simp; done) | (simp; omega) | (simp at *; omega)))) | (with_reducible refine Below.drew ?_) | (with_reducible refine below_drewN ?_ _) | ((with_reducible refine Below.trans ?_ (Below.mono (by with_reducible assumption) ?hsz)); (case hsz => (first | omega | (simp; done) | (simp; omega) | (simp at *; omega))))))⟩
  · go_enter Try.func84, Try.ntmps84
    go_wp2_with fail
    refine (sidesWhere_any a b 16 _ _ _ (by omega) h0 h1 h2 h3 (by (first | omega | (simp; done) | (simp; omega) | (simp at *; omega))) (by (first | omega | (simp; done) | (simp; omega) | (simp at *; omega))) (by go_simp) (by go_simp)).mono ?_
    rintro e w1 ⟨r, rfl, hr, hb1⟩
    go_wp2
    go_ret
    exact ⟨_, rfl, hr.mono (by (first | omega | (simp; done) | (simp; omega) | (simp at *; omega))), by (repeat (first | (with_reducible assumption) | (with_reducible exact Below.refl _ _) | ((with_reducible refine Below.alloc ?_ ?hsz _); (case hsz => (first | omega | (simp; done) | (simp; omega) | (simp at *; omega)))) | ((with_reducible refine Below.setCell ?_ ?hsz _); (case hsz => (first | omega | (simp; done) | (simp; omega) | (simp at *; omega)))) | (with_reducible refine Below.drew ?_) | (with_reducible refine below_drewN ?_ _) | ((with_reducible refine Below.trans ?_ (Below.mono (by with_reducible assumption) ?hsz)); (case hsz => (first | omega | (simp; done) | (simp; omega) | (simp at *; omega))))))⟩
  · go_enter Try.func84, Try.ntmps84
    go_wp2_with fail
    refine (sidesWhere_any a b 32 _ _ _ (by omega) h0 h1 h2 h3 (by (first | omega | (simp; done) | (simp; omega) | (simp at *; omega))) (by (first | omega | (simp; done) | (simp; omega) | (simp at *; omega))) (by go_simp) (by go_simp)).mono ?_
    rintro e w1 ⟨r, rfl, hr, hb1⟩
    go_wp2
    go_ret
    exact ⟨_, rfl, hr.mono (by (first | omega | (simp; done) | (simp; omega) | (simp at *; omega))), by (repeat (first | (with_reducible assumption) | (with_reducible exact Below.refl _ _) | ((with_reducible refine Below.alloc ?_ ?hsz _); (case hsz => (first | omega | (simp; done) | (simp; omega) | (simp at *; omega)))) | ((with_reducible refine Below.setCell ?_ ?hsz _); (case hsz => (first | omega | (simp; done) | (simp; omega) | (simp at *; omega)))) | (with_reducible refine Below.drew ?_) | (with_reducible refine below_drewN ?_ _) | ((with_reducible refine Below.trans ?_ (Below.mono (by with_reducible assumption) ?hsz)); (case hsz => (first | omega | (simp; done) | (simp; omega) | (simp at *; omega))))))⟩

end Go.Proofs.Ytabkhpeoeihmmaa
