/- Contracts of the functions of chapter 9 in the program: rows of marks put together, two pipes made one. -/
import Derived.Test.YtffeeiafgheoaaaBM
import Derived.Test.YtffeeiafgheoaaaHB
import Derived.Test.YtffeeiafgheoaaaA2
import Derived.Test.YtffeeiafgheoaaaAP
import Derived.Test.YtffeeiafgheoaaaHD
import Derived.Test.YtffeeiafgheoaaaGA
namespace Go.Proofs.Ytffeeiafgheoaaa
open Go.RowKit

set_option maxHeartbeats 2000000 in
set_option maxRecDepth 20000 in
theorem growMark_any (n : Nat) (w : World) (hn : n ≤ 100000) :
    Calls Try.prog 78 #[.slice none 0 0, .int .i64 n] w fun e w' => ∃ r, e = .returned r ∧ w'.ownsRow w.heap.size 51 3 r 0 [] ∧ Below w.heap.size w w' := by
  obtain ⟨i0, hi0, hz0, hz1, hz2⟩ := info_parts mark_info
  by_cases h0 : n = 0
  · subst h0
    go_enter Try.func78, Try.ntmps78
    go_wp2
    go_ret
    exact ⟨_, rfl, World.ownsRow_nil _ _ _ _, by (repeat (first | (with_reducible assumption) | (with_reducible exact Below.refl _ _) | ((with_reducible refine Below.alloc ?_ ?hsz _); (case hsz => (first | omega | (simp; done) | (simp; omega) | (simp at *; omega)))) | ((with_reducible refine Below.setCell ?_ ?hsz _); (case hsz => (first | omega | (simp; done) | (simp; omega) | (simp at *; omega)))) | (with_reducible refine Below.drew ?_) | (with_reducible refine below_drewN ?_ _) | ((with_reducible refine Below.trans ?_ (Below.mono (by with_reducible assumption) ?hsz)); (case hsz => (first | omega | (simp; done) | (simp; omega) | (simp at *; omega))))))⟩
  · have hold : (Builtin.firstCells i0.size 0 (.slice none 0 0)).run Try.prog w.drew = .ok #[] w.drew := run_firstCells_none w.drew i0.size 0 0 0
    have hrz := fun ty => Lib.run_append_grow_zeros w 24 3 ty 51 i0 _ .i64 .i64 Try.underlying24 Try.underlying3 hi0 hz0 none 0 0 [] hold n (by omega) (by omega) (by omega) (by omega) (by rw [hz2]; omega) (growslice_fits (by omega) (by rw [hz2]; omega))
    rw [Nat.zero_add] at hrz
    have hge := grownCap_ge w n 0 51
    have hle := grownCap_le_maxLen w n 0 51 (by unfold maxLen; omega)
    generalize grownCap w n 0 51 = G at *
    have hsz : (w.drew.alloc (.cells (#[] ++ Builtin.zeroCells (Value.cells (i0.zero.getD undef)) n ++ Builtin.zeroCells (Value.cells (i0.zero.getD undef)) (G - n)) 51)).heap.size = w.heap.size + 1 := by simp
    have hown : ∀ cs : Array Value, cs.size = G * 3 → (w.drew.alloc (.cells cs 51)).ownsRow w.heap.size 51 3 (.slice (some ⟨w.heap.size, 0, none⟩) 0 G) 0 [] := fun cs hcs =>
      ⟨by simp, .inr ⟨w.heap.size, G, cs, rfl, Nat.le_refl _, heap_alloc_new w.drew _, Nat.zero_le _, hle, hcs, by simp⟩⟩
    have hGs : G ≤ 9223372036854775807 := by unfold maxLen at hle; omega
    clear hsz
    generalize hcs : (#[] ++ Builtin.zeroCells _ n ++ Builtin.zeroCells _ (G - n) : Array Value) = cs at hrz
    have hcz : cs.size = G * 3 := by
      rw [← hcs]
      simp [size_zeroCells, Value.cells]
      omega
    have hfin := hown cs hcz
    clear hown hcs hle hold
    go_enter Try.func78, Try.ntmps78
    go_wp2_with (at_builtin; refine Lib.wpList_append_run _ rfl _ _ _ _ rfl _ _ rfl rfl _ _ (hrz _) ?_)
    go_ret
    exact ⟨_, rfl, hfin, by (repeat (first | (with_reducible assumption) | (with_reducible exact Below.refl _ _) | ((with_reducible refine Below.alloc ?_ ?hsz _); (case hsz => (first | omega | (simp; done) | (simp; omega) | (simp at *; omega)))) | ((with_reducible refine Below.setCell ?_ ?hsz _); (case hsz => (first | omega | (simp; done) | (simp; omega) | (simp at *; omega)))) | (with_reducible refine Below.drew ?_) | (with_reducible refine below_drewN ?_ _) | ((with_reducible refine Below.trans ?_ (Below.mono (by with_reducible assumption) ?hsz)); (case hsz => (first | omega | (simp; done) | (simp; omega) | (simp at *; omega))))))⟩

set_option maxHeartbeats 4000000 in
set_option maxRecDepth 20000 in
theorem concatMark_any (g m : Nat) (ns : List Nat) (css : List (List Value)) (w : World) (h : SrcsOk w 3 g m ns css) (hm : m ≤ 3) (hs : ns.sum ≤ 1000) :
    Calls Try.prog 77 #[.slice (some ⟨g, 0, none⟩) m m] w fun e w' => ∃ r, e = .returned r ∧ w'.ownsRow w.heap.size 51 3 r ns.sum css.flatten ∧ Below w.heap.size w w' := by
  obtain ⟨hn, hc, hg, hk⟩ := h
  have HK := Lib.hid hk
  clear hk
  obtain ⟨i0, hi0, hz0, hz1, hz2⟩ := info_parts mark_info
  have HN := Lib.hid hn
  have HC := Lib.hid hc
  clear hn hc
  have HS := Lib.hid hs
  have HT := Lib.hid (fun k => sum_take_le ns k)
  go_enter Try.func77, Try.ntmps77
  go_wp2_with fail
  go_loopw [11, 3] (fun i t wr => ∃ k : Nat, k ≤ m ∧ i = .int .i64 k ∧ t = .int .i64 ((ns.take k).sum : Nat) ∧ w = wr) (fun i _ _ => m - (intOf i).toNat)
  case atStart => exact ⟨0, by omega, rfl, rfl, rfl⟩
  case round =>
    obtain ⟨k, hkm, rfl, rfl, rfl⟩ := hrel
    have hk1 := HT.out k
    have hs1 := HS.out
    by_cases hlt : k < m
    · obtain ⟨vk, c0, hsr⟩ := HK.out k hlt
      have h1 := HT.out (k + 1)
      have h2 := sum_take_succ ns k (by rw [HN.out]; exact hlt)
      have h9 := hsr w (Below.refl _ _)
      generalize ns.getD k 0 = nk at *
      generalize (ns.take k).sum = s at *
      have H2 := Lib.hid h2
      rw [h2] at h1
      clear h2 hsr
      rcases h9 with ⟨rfl, rfl, -⟩ | ⟨ad, c, rfl, -, -, -⟩
      · go_wp2_with fail
        go_roundw
        case rel => exact ⟨k + 1, by omega, by go_num, by rw [H2.out]; go_num, by first | rfl | trivial⟩
        case measure => simp [intOf]; omega
      · go_wp2_with fail
        go_roundw
        case rel => exact ⟨k + 1, by omega, by go_num, by rw [H2.out]; go_num, by first | rfl | trivial⟩
        case measure => simp [intOf]; omega
    · have hk2 : k = m := by omega
      subst hk2
      have e1 : (ns.take k).sum = ns.sum := by rw [List.take_of_length_le (by rw [HN.out]; exact Nat.le_refl _)]
      rw [e1] at hk1 ⊢
      have HE := Lib.hid e1
      clear e1 hlt hkm
      generalize hS : ns.sum = S at *
      go_wp2_with fail
      refine (growMark_any S _ (by omega)).mono ?_
      rintro e w1 ⟨r, rfl, hr, hb1⟩
      go_wp2_with fail
      go_loopw [27, 6] (fun i t wr => ∃ j : Nat, j ≤ k ∧ i = .int .i64 j ∧ wr.ownsRow w.heap.size 51 3 t (ns.take j).sum (css.take j).flatten ∧ Below w.heap.size w wr) (fun i _ _ => k - (intOf i).toNat)
      case atStart => exact ⟨0, by omega, rfl, hr, hb1⟩
      case round =>
        clear hr hb1
        obtain ⟨j, hjk, rfl, hown, hb⟩ := hrel
        have hj1 := HT.out j
        have hzb := hb.size
        by_cases hlt : j < k
        · obtain ⟨vk, c0, hsr⟩ := HK.out j hlt
          have c1 := (hb.cell (p := ⟨g, j, none⟩) hg).trans c0
          have h1 := HT.out (j + 1)
          have h2 := sum_take_succ ns j (by rw [HN.out]; exact hlt)
          have h3 := flat_take_succ css j (by rw [HC.out]; exact hlt)
          have h9 := hsr wr hb
          have hgr : g < wr.heap.size := by omega
          generalize ns.getD j 0 = nk at *
          generalize css.getD j [] = ck at *
          rw [h2] at h1
          have H2 := Lib.hid (And.intro h2 h3)
          clear h2 h3 hsr c0
          go_wp2_with (first
            | (at_builtin
               go_must (refine wpList_append_src rfl _ _ 24 rfl w.heap.size 51 i0 _ 3 24 Try.underlying24 hi0 hz0 hz1 hz2 rfl (by omega) _ _ (ns.take j).sum nk _ ck rfl rfl hown h9 (by unfold maxLen; omega) (by omega) hzb ?_)
               intro r2 w7 hown7 hgr7 hat7))
          have hb7 : Below w.heap.size w w7 := Below.grown hb hgr7 hzb (fun q hq => (hown.lt q hq).1)
          rw [← H2.out.1, ← H2.out.2] at hown7
          clear hown h9 hgr7 hat7 hb
          go_roundw
          case rel => exact ⟨j + 1, by omega, by go_num, hown7, hb7⟩
          case measure => simp [intOf]; omega
        · have hj2 : j = k := by omega
          subst hj2
          have e2 : (css.take j).flatten = css.flatten := by rw [List.take_of_length_le (by rw [HC.out]; exact Nat.le_refl _)]
          rw [HE.out, e2, ← hS] at hown
          go_wp2_with fail
          go_ret
          exact ⟨_, rfl, hown, hb⟩

theorem threeMarks {w : World} {g b b' b'' : Nat} {u v x : Value} {L1 L2 L3 : List Mk} {t : TypeId} {fr : Nat × Nat} (h : w.heap[g]? = some (.cells #[u, v, x] t fr)) (h1 : Marks w b u L1) (h2 : Marks w b' v L2) (h3 : Marks w b'' x L3) :
    SrcsOk w 3 g 3 [L1.length, L2.length, L3.length] [L1.flatMap Mk.cells, L2.flatMap Mk.cells, L3.flatMap Mk.cells] := by
  refine ⟨rfl, rfl, heap_lt h, fun k hk => ?_⟩
  have hk2 : k = 0 ∨ k = 1 ∨ k = 2 := by omega
  rcases hk2 with rfl | rfl | rfl
  · exact ⟨u, heap_cell h rfl, fun W hW => (h1.keep hW).src⟩
  · exact ⟨v, heap_cell h rfl, fun W hW => (h2.keep hW).src⟩
  · exact ⟨x, heap_cell h rfl, fun W hW => (h3.keep hW).src⟩

set_option maxHeartbeats 2000000 in
set_option maxRecDepth 20000 in
theorem together_any (k : Int) (u v : Value) (L1 L2 : List Mk) (b b' : Nat) (w : World) (h1 : Marks w b u L1) (h2 : Marks w b' v L2) (hl : L1.length + L2.length ≤ 100) :
    Calls Try.prog 70 #[.int .i64 k, u, v] w fun e w' => ∃ r, e = .returned r ∧ Marks w' w.heap.size r (L1 ++ L2 ++ [⟨k, 0, 0⟩]) ∧ Below w.heap.size w w' := by
  obtain ⟨A1, c1, rfl, -, -, -, -⟩ := h1.form
  obtain ⟨A2, c2, rfl, -, -, -, -⟩ := h2.form
  obtain ⟨l1, hl1⟩ : ∃ l, L1.length = l := ⟨_, rfl⟩
  obtain ⟨l2, hl2⟩ : ∃ l, L2.length = l := ⟨_, rfl⟩
  rw [hl1] at h1 ⊢
  rw [hl2] at h2 ⊢
  have h3 : Marks (w.alloc (.cells #[.int .i64 k, .int .i64 0, .int .i64 0] 51)) w.heap.size (.slice (some ⟨w.heap.size, 0, none⟩) 1 1) [⟨k, 0, 0⟩] := ⟨World.ownsRow_lit (e := 51) (base := w.heap.size) (size := 3) w #[.int .i64 k, .int .i64 0, .int .i64 0] 1 (Nat.le_refl _) (by simp [maxLen]) rfl, by simp [small]⟩
  have hh := heap_alloc_new (w.alloc (.cells #[.int .i64 k, .int .i64 0, .int .i64 0] 51)) (.cells #[.slice A1 l1 c1, .slice A2 l2 c2, .slice (some ⟨w.heap.size, 0, none⟩) 1 1] 24)
  rw [World.size_alloc] at hh
  have hsrcs := threeMarks hh (h1.keep (by (repeat (first | (with_reducible assumption) | (with_reducible exact Below.refl _ _) | ((with_reducible refine Below.alloc ?_ ?hsz _); (case hsz => (first | omega | (simp; done) | (simp; omega) | (simp at *; omega)))) | ((with_reducible refine Below.setCell ?_ ?hsz _); (case hsz => (first | omega | (simp; done) | (simp; omega) | (simp at *; omega)))) | (with_reducible refine Below.drew ?_) | (with_reducible refine below_drewN ?_ _) | ((with_reducible refine Below.trans ?_ (Below.mono (by with_reducible assumption) ?hsz)); (case hsz => (first | omega | (simp; done) | (simp; omega) | (simp at *; omega)))))))) (h2.keep (by (repeat (first | (with_reducible assumption) | (with_reducible exact Below.refl _ _) | ((with_reducible refine Below.alloc ?_ ?hsz _); (case hsz => (first | omega | (simp; done) | (simp; omega) | (simp at *; omega)))) | ((with_reducible refine Below.setCell ?_ ?hsz _); (case hsz => (first | omega | (simp; done) | (simp; omega) | (simp at *; omega)))) | (with_reducible refine Below.drew ?_) | (with_reducible refine below_drewN ?_ _) | ((with_reducible refine Below.trans ?_ (Below.mono (by with_reducible assumption) ?hsz)); (case hsz => (first | omega | (simp; done) | (simp; omega) | (simp at *; omega)))))))) (h3.keep (by (repeat (first | (with_reducible assumption) | (with_reducible exact Below.refl _ _) | ((with_reducible refine Below.alloc ?_ ?hsz _); (case hsz => (first | omega | (simp; done) | (simp; omega) | (simp at *; omega)))) | ((with_reducible refine Below.setCell ?_ ?hsz _); (case hsz => (first | omega | (simp; done) | (simp; omega) | (simp at *; omega)))) | (with_reducible refine Below.drew ?_) | (with_reducible refine below_drewN ?_ _) | ((with_reducible refine Below.trans ?_ (Below.mono (by with_reducible assumption) ?hsz)); (case hsz => (first | omega | (simp; done) | (simp; omega) | (simp at *; omega))))))))
  have HL := Lib.hid (And.intro hl1 hl2)
  clear h1 h2 h3 hh
  go_enter Try.func70, Try.ntmps70
  go_wp2_with fail
  refine (concatMark_any _ 3 _ _ _ hsrcs (by omega) (by simp; omega)).mono ?_
  rintro e w2 ⟨r, rfl, hr, hb2⟩
  have hz2 := hb2.size
  simp at hz2
  have hfin : Marks w2 w.heap.size r (L1 ++ L2 ++ [⟨k, 0, 0⟩]) := by
    have hr' := own_mono hr (show w.heap.size ≤ _ by simp; omega)
    refine ⟨?_, by simp [small]; omega⟩
    simp only [List.flatMap_append, List.length_append, List.length_singleton]
    simpa [Mk.cells, Nat.add_assoc] using hr'
  have hbF : Below w.heap.size w w2 := by (repeat (first | (with_reducible assumption) | (with_reducible exact Below.refl _ _) | ((with_reducible refine Below.alloc ?_ ?hsz _); (case hsz => (first | omega | (simp; done) | (simp; omega) | (simp at *; omega)))) | ((with_reducible refine Below.setCell ?_ ?hsz _); (case hsz => (first | omega | (simp; done) | (simp; omega) | (simp at *; omega)))) | (with_reducible refine Below.drew ?_) | (with_reducible refine below_drewN ?_ _) | ((with_reducible refine Below.trans ?_ (Below.mono (by with_reducible assumption) ?hsz)); (case hsz => (first | omega | (simp; done) | (simp; omega) | (simp at *; omega))))))
  clear hr hb2 hsrcs
  go_wp2_with fail
  go_ret
  exact ⟨_, rfl, hfin, hbF⟩

end Go.Proofs.Ytffeeiafgheoaaa
