/- Plain facts. -/
import Derived.Test.YtaohjhehlkeckaaBM
import Derived.Test.YtaohjhehlkeckaaHB
import Derived.Test.YtaohjhehlkeckaaA2
import Derived.Test.YtaohjhehlkeckaaAP
import Derived.Test.YtaohjhehlkeckaaHD
import Derived.Test.YtaohjhehlkeckaaGA
import Derived.Test.YtaohjhehlkeckaaAR
/- Contracts of the functions of chapter 9 in the program: rows of marks put together, two pipes made one. -/
namespace Go.Proofs.Ytaohjhehlkeckaa
open Go.RowKit

set_option maxHeartbeats 2000000 in
set_option maxRecDepth 20000 in
theorem growMark_any (n : Nat) (w : World) (hn : n ≤ 100000) :
    Calls Try.prog 87 #[.slice none 0 0, .int .i64 n] w fun e w' => ∃ r, e = .returned r ∧ w'.ownsRow w.heap.size 33 3 r 0 [] ∧ Below w.heap.size w w' := by
  obtain ⟨i0, hi0, hz0, hz1, hz2⟩ := info_parts mark_info
  by_cases h0 : n = 0
  · subst h0
    go_enter Try.func87, Try.ntmps87
    go_wp2
    go_ret
    exact ⟨_, rfl, World.ownsRow_nil _ _ _ _, by (repeat (first | (with_reducible assumption) | (with_reducible exact Below.refl _ _) | ((with_reducible refine Below.alloc ?_ ?hsz _); (case hsz => (first | omega | (simp; done) | (simp; omega) | (simp at *; omega)))) | ((with_reducible refine Below.setCell ?_ ?hsz _); (case hsz => (first | omega | (simp; done) | (simp; omega) | (simp at *; omega)))) | (with_reducible refine Below.drew ?_) | (with_reducible refine below_drewN ?_ _) | ((with_reducible refine Below.trans ?_ (Below.mono (by with_reducible assumption) ?hsz)); (case hsz => (first | omega | (simp; done) | (simp; omega) | (simp at *; omega))))))⟩
  · have hold : (Builtin.firstCells i0.size 0 (.slice none 0 0)).run Try.prog w.drew = .ok #[] w.drew := run_firstCells_none w.drew i0.size 0 0 0
    have hrz := fun ty => Lib.run_append_grow_zeros w 23 3 ty 33 i0 _ .i64 .i64 Try.underlying23 Try.underlying3 hi0 hz0 none 0 0 [] hold n (by omega) (by omega) (by omega) (by omega) (by rw [hz2]; omega) (growslice_fits (by omega) (by rw [hz2]; omega))
    rw [Nat.zero_add] at hrz
    have hge := grownCap_ge w n 0 33
    have hle := grownCap_le_maxLen w n 0 33 (by unfold maxLen; omega)
    generalize grownCap w n 0 33 = G at *
    have hsz : (w.drew.alloc (.cells (#[] ++ Builtin.zeroCells (Value.cells (i0.zero.getD undef)) n ++ Builtin.zeroCells (Value.cells (i0.zero.getD undef)) (G - n)) 33)).heap.size = w.heap.size + 1 := by simp
    have hown : ∀ cs : Array Value, cs.size = G * 3 → (w.drew.alloc (.cells cs 33)).ownsRow w.heap.size 33 3 (.slice (some ⟨w.heap.size, 0, none⟩) 0 G) 0 [] := fun cs hcs =>
      ⟨by simp, .inr ⟨w.heap.size, G, cs, rfl, Nat.le_refl _, heap_alloc_new w.drew _, Nat.zero_le _, hle, hcs, by simp⟩⟩
    have hGs : G ≤ 9223372036854775807 := by unfold maxLen at hle; omega
    clear hsz
    generalize hcs : (#[] ++ Builtin.zeroCells _ n ++ Builtin.zeroCells _ (G - n) : Array Value) = cs at hrz
    have hcz : cs.size = G * 3 := by
      rw [← hcs]
      simp [size_zeroCells, Value.cells]
      omega
    have hfin := hown cs hcz
    clear hown hcs hle hold
    go_enter Try.func87, Try.ntmps87
    go_wp2_with (at_builtin; refine Lib.wpList_append_run _ rfl _ _ _ _ rfl _ _ rfl rfl _ _ (hrz _) ?_)
    go_ret
    exact ⟨_, rfl, hfin, by (repeat (first | (with_reducible assumption) | (with_reducible exact Below.refl _ _) | ((with_reducible refine Below.alloc ?_ ?hsz _); (case hsz => (first | omega | (simp; done) | (simp; omega) | (simp at *; omega)))) | ((with_reducible refine Below.setCell ?_ ?hsz _); (case hsz => (first | omega | (simp; done) | (simp; omega) | (simp at *; omega)))) | (with_reducible refine Below.drew ?_) | (with_reducible refine below_drewN ?_ _) | ((with_reducible refine Below.trans ?_ (Below.mono (by with_reducible assumption) ?hsz)); (case hsz => (first | omega | (simp; done) | (simp; omega) | (simp at *; omega))))))⟩

set_option maxHeartbeats 4000000 in
set_option maxRecDepth 20000 in
theorem concatMark_any (g m : Nat) (ns : List Nat) (css : List (List Value)) (w : World) (h : SrcsOk w 3 g m ns css) (hm : m ≤ 3) (hs : ns.sum ≤ 1000) :
    Calls Try.prog 86 #[.slice (some ⟨g, 0, none⟩) m m] w fun e w' => ∃ r, e = .returned r ∧ w'.ownsRow w.heap.size 33 3 r ns.sum css.flatten ∧ Below w.heap.size w w' := by
  obtain ⟨hn, hc, hg, hk⟩ := h
  have HK := Lib.hid hk
  clear hk
  obtain ⟨i0, hi0, hz0, hz1, hz2⟩ := info_parts mark_info
  have HN := Lib.hid hn
  have HC := Lib.hid hc
  clear hn hc
  have HS := Lib.hid hs
  have HT := Lib.hid (fun k => sum_take_le ns k)
  go_enter Try.func86, Try.ntmps86
  go_wp2_with fail
  go_loopw [11, 3] (fun i t wr => ∃ k : Nat, k ≤ m ∧ i = .int .i64 k ∧ t = .int .i64 ((ns.take k).sum : Nat) ∧ w = wr) (fun i _ _ => m - (intOf i).toNat)
  case atStart => exact ⟨0, by omega, rfl, rfl, rfl⟩
  case round =>
    obtain ⟨k, hkm, rfl, rfl, rfl⟩ := hrel
    have hk1 := HT.out k
    have hs1 := HS.out
    by_cases hlt : k < m
    · obtain ⟨vk, c0, hsr⟩ := HK.out k hlt
      have h1 := HT.out (k + 1)
      have h2 := sum_take_succ ns k (by rw [HN.out]; exact hlt)
      have h9 := hsr w (Below.refl _ _)
      generalize ns.getD k 0 = nk at *
      generalize (ns.take k).sum = s at *
      have H2 := Lib.hid h2
      rw [h2] at h1
      clear h2 hsr
      rcases h9 with ⟨rfl, rfl, -⟩ | ⟨ad, c, rfl, -, -, -⟩
      · go_wp2_with fail
        go_roundw
        case rel => exact ⟨k + 1, by omega, by go_num, by rw [H2.out]; go_num, by first | rfl | trivial⟩
        case measure => simp [intOf]; omega
      · go_wp2_with fail
        go_roundw
        case rel => exact ⟨k + 1, by omega, by go_num, by rw [H2.out]; go_num, by first | rfl | trivial⟩
        case measure => simp [intOf]; omega
    · have hk2 : k = m := by omega
      subst hk2
      have e1 : (ns.take k).sum = ns.sum := by rw [List.take_of_length_le (by rw [HN.out]; exact Nat.le_refl _)]
      rw [e1] at hk1 ⊢
      have HE := Lib.hid e1
      clear e1 hlt hkm
      generalize hS : ns.sum = S at *
      go_wp2_with fail
      refine (growMark_any S _ (by omega)).mono ?_
      rintro e w1 ⟨r, rfl, hr, hb1⟩
      go_wp2_with fail
      go_loopw [27, 6] (fun i t wr => ∃ j : Nat, j ≤ k ∧ i = .int .i64 j ∧ wr.ownsRow w.heap.size 33 3 t (ns.take j).sum (css.take j).flatten ∧ Below w.heap.size w wr) (fun i _ _ => k - (intOf i).toNat)
      case atStart => exact ⟨0, by omega, rfl, hr, hb1⟩
      case round =>
        clear hr hb1
        obtain ⟨j, hjk, rfl, hown, hb⟩ := hrel
        have hj1 := HT.out j
        have hzb := hb.size
        by_cases hlt : j < k
        · obtain ⟨vk, c0, hsr⟩ := HK.out j hlt
          have c1 := (hb.cell (p := ⟨g, j, none⟩) hg).trans c0
          have h1 := HT.out (j + 1)
          have h2 := sum_take_succ ns j (by rw [HN.out]; exact hlt)
          have h3 := flat_take_succ css j (by rw [HC.out]; exact hlt)
          have h9 := hsr wr hb
          have hgr : g < wr.heap.size := by omega
          generalize ns.getD j 0 = nk at *
          generalize css.getD j [] = ck at *
          rw [h2] at h1
          have H2 := Lib.hid (And.intro h2 h3)
          clear h2 h3 hsr c0
          go_wp2_with (first
            | (at_builtin
               go_must (refine wpList_append_src rfl _ _ 23 rfl w.heap.size 33 i0 _ 3 24 Try.underlying23 hi0 hz0 hz1 hz2 rfl (by omega) _ _ (ns.take j).sum nk _ ck rfl rfl hown h9 (by unfold maxLen; omega) (by omega) hzb ?_)
               intro r2 w7 hown7 hgr7 hat7))
          have hb7 : Below w.heap.size w w7 := Below.grown hb hgr7 hzb (fun q hq => (hown.lt q hq).1)
          rw [← H2.out.1, ← H2.out.2] at hown7
          clear hown h9 hgr7 hat7 hb
          go_roundw
          case rel => exact ⟨j + 1, by omega, by go_num, hown7, hb7⟩
          case measure => simp [intOf]; omega
        · have hj2 : j = k := by omega
          subst hj2
          have e2 : (css.take j).flatten = css.flatten := by rw [List.take_of_length_le (by rw [HC.out]; exact Nat.le_refl _)]
          rw [HE.out, e2, ← hS] at hown
          go_wp2_with fail
          go_ret
          exact ⟨_, rfl, hown, hb⟩

theorem threeMarks {w : World} {g b b' b'' : Nat} {u v x : Value} {L1 L2 L3 : List Mk} {t : TypeId} {fr : Nat × Nat} (h : w.heap[g]? = some (.cells #[u, v, x] t fr)) (h1 : Marks w b u L1) (h2 : Marks w b' v L2) (h3 : Marks w b'' x L3) :
    SrcsOk w 3 g 3 [L1.length, L2.length, L3.length] [L1.flatMap Mk.cells, L2.flatMap Mk.cells, L3.flatMap Mk.cells] := by
  refine ⟨rfl, rfl, heap_lt h, fun k hk => ?_⟩
  have hk2 : k = 0 ∨ k = 1 ∨ k = 2 := by omega
  rcases hk2 with rfl | rfl | rfl
  · exact ⟨u, heap_cell h rfl, fun W hW => (h1.keep hW).src⟩
  · exact ⟨v, heap_cell h rfl, fun W hW => (h2.keep hW).src⟩
  · exact ⟨x, heap_cell h rfl, fun W hW => (h3.keep hW).src⟩

set_option maxHeartbeats 2000000 in
set_option maxRecDepth 20000 in
theorem together_any (k : Int) (u v : Value) (L1 L2 : List Mk) (b b' : Nat) (w : World) (h1 : Marks w b u L1) (h2 : Marks w b' v L2) (hl : L1.length + L2.length ≤ 100) :
    Calls Try.prog 77 #[.int .i64 k, u, v] w fun e w' => ∃ r, e = .returned r ∧ Marks w' w.heap.size r (L1 ++ L2 ++ [⟨k, 0, 0⟩]) ∧ Below w.heap.size w w' := by
  obtain ⟨A1, c1, rfl, -, -, -, -⟩ := h1.form
  obtain ⟨A2, c2, rfl, -, -, -, -⟩ := h2.form
  obtain ⟨l1, hl1⟩ : ∃ l, L1.length = l := ⟨_, rfl⟩
  obtain ⟨l2, hl2⟩ : ∃ l, L2.length = l := ⟨_, rfl⟩
  rw [hl1] at h1 ⊢
  rw [hl2] at h2 ⊢
  have h3 : Marks (w.alloc (.cells #[.int .i64 k, .int .i64 0, .int .i64 0] 33)) w.heap.size (.slice (some ⟨w.heap.size, 0, none⟩) 1 1) [⟨k, 0, 0⟩] := ⟨World.ownsRow_lit (e := 33) (base := w.heap.size) (size := 3) w #[.int .i64 k, .int .i64 0, .int .i64 0] 1 (Nat.le_refl _) (by simp [maxLen]) rfl, by simp [small]⟩
  have hh := heap_alloc_new (w.alloc (.cells #[.int .i64 k, .int .i64 0, .int .i64 0] 33)) (.cells #[.slice A1 l1 c1, .slice A2 l2 c2, .slice (some ⟨w.heap.size, 0, none⟩) 1 1] 23)
  rw [World.size_alloc] at hh
  have hsrcs := threeMarks hh (h1.keep (by (repeat (first | (with_reducible assumption) | (with_reducible exact Below.refl _ _) | ((with_reducible refine Below.alloc ?_ ?hsz _); (case hsz => (first | omega | (simp; done) | (simp; omega) | (simp at *; omega)))) | ((with_reducible refine Below.setCell ?_ ?hsz _); (case hsz => (first | omega | (simp; done) | (simp; omega) | (simp at *; omega)))) | (with_reducible refine Below.drew ?_) | (with_reducible refine below_drewN ?_ _) | ((with_reducible refine Below.trans ?_ (Below.mono (by with_reducible assumption) ?hsz)); (case hsz => (first | omega | (simp; done) | (simp; omega) | (simp at *; omega)))))))) (h2.keep (by (repeat (first | (with_reducible assumption) | (with_reducible exact Below.refl _ _) | ((with_reducible refine Below.alloc ?_ ?hsz _); (case hsz => (first | omega | (simp; done) | (simp; omega) | (simp at *; omega)))) | ((with_reducible refine Below.setCell ?_ ?hsz _); (case hsz => (first | omega | (simp; done) | (simp; omega) | (simp at *; omega)))) | (with_reducible refine Below.drew ?_) | (with_reducible refine below_drewN ?_ _) | ((with_reducible refine Below.trans ?_ (Below.mono (by with_reducible assumption) ?hsz)); (case hsz => (first | omega | (simp; done) | (simp; omega) | (simp at *; omega)))))))) (h3.keep (by (repeat (first | (with_reducible assumption) | (with_reducible exact Below.refl _ _) | ((with_reducible refine Below.alloc ?_ ?hsz _); (case hsz => (first | omega | (simp; done) | (simp; omega) | (simp at *; omega)))) | ((with_reducible refine Below.setCell ?_ ?hsz _); (case hsz => (first | omega | (simp; done) | (simp; omega) | (simp at *; omega)))) | (with_reducible refine Below.drew ?_) | (with_reducible refine below_drewN ?_ _) | ((with_reducible refine Below.trans ?_ (Below.mono (by with_reducible assumption) ?hsz)); (case hsz => (first | omega | (simp; done) | (simp; omega) | (simp at *; omega))))))))
  have HL := Lib.hid (And.intro hl1 hl2)
  clear h1 h2 h3 hh
  go_enter Try.func77, Try.ntmps77
  go_wp2_with fail
  refine (concatMark_any _ 3 _ _ _ hsrcs (by omega) (by simp; omega)).mono ?_
  rintro e w2 ⟨r, rfl, hr, hb2⟩
  have hz2 := hb2.size
  simp at hz2
  have hfin : Marks w2 w.heap.size r (L1 ++ L2 ++ [⟨k, 0, 0⟩]) := by
    have hr' := own_mono hr (show w.heap.size ≤ _ by simp; omega)
    refine ⟨?_, by simp [small]; omega⟩
    simp only [List.flatMap_append, List.length_append, List.length_singleton]
    simpa [Mk.cells, Nat.add_assoc] using hr'
  have hbF : Below w.heap.size w w2 := by (repeat (first | (with_reducible assumption) | (with_reducible exact Below.refl _ _) | ((with_reducible refine Below.alloc ?_ ?hsz _); (case hsz => (first | omega | (simp; done) | (simp; omega) | (simp at *; omega)))) | ((with_reducible refine Below.setCell ?_ ?hsz _); (case hsz => (first | omega | (simp; done) | (simp; omega) | (simp at *; omega)))) | (with_reducible refine Below.drew ?_) | (with_reducible refine below_drewN ?_ _) | ((with_reducible refine Below.trans ?_ (Below.mono (by with_reducible assumption) ?hsz)); (case hsz => (first | omega | (simp; done) | (simp; omega) | (simp at *; omega))))))
  clear hr hb2 hsrcs
  go_wp2_with fail
  go_ret
  exact ⟨_, rfl, hfin, hbF⟩

end Go.Proofs.Ytaohjhehlkeckaa

/- Contracts of the functions of chapter 9 in the program: two pipes made one. -/
namespace Go.Proofs.Ytaohjhehlkeckaa
open Go.RowKit

theorem c6_set {w : World} {g : Nat} (h : ∀ k, k < 3 → (∃ v, w.cell? ⟨g, k, none⟩ = some v) ∧ w.frozen? ⟨g, k, none⟩ = false) (x y z : Value) :
    (∀ k, k < 3 → (∃ v, (((w.setCell ⟨g, 0, none⟩ x).setCell ⟨g, 1, none⟩ y).setCell ⟨g, 2, none⟩ z).cell? ⟨g, k, none⟩ = some v) ∧ (((w.setCell ⟨g, 0, none⟩ x).setCell ⟨g, 1, none⟩ y).setCell ⟨g, 2, none⟩ z).frozen? ⟨g, k, none⟩ = false) ∧
    (((w.setCell ⟨g, 0, none⟩ x).setCell ⟨g, 1, none⟩ y).setCell ⟨g, 2, none⟩ z).cell? ⟨g, 0, none⟩ = some x ∧ (((w.setCell ⟨g, 0, none⟩ x).setCell ⟨g, 1, none⟩ y).setCell ⟨g, 2, none⟩ z).cell? ⟨g, 1, none⟩ = some y ∧
    (((w.setCell ⟨g, 0, none⟩ x).setCell ⟨g, 1, none⟩ y).setCell ⟨g, 2, none⟩ z).cell? ⟨g, 2, none⟩ = some z := by
  obtain ⟨⟨v0, s0⟩, k0⟩ := h 0 (by omega)
  obtain ⟨⟨v1, s1⟩, k1⟩ := h 1 (by omega)
  obtain ⟨⟨v2, s2⟩, k2⟩ := h 2 (by omega)
  have a0 : (((w.setCell ⟨g, 0, none⟩ x).setCell ⟨g, 1, none⟩ y).setCell ⟨g, 2, none⟩ z).cell? ⟨g, 0, none⟩ = some x := by go_simp
  have a1 : (((w.setCell ⟨g, 0, none⟩ x).setCell ⟨g, 1, none⟩ y).setCell ⟨g, 2, none⟩ z).cell? ⟨g, 1, none⟩ = some y := by go_simp
  have a2 : (((w.setCell ⟨g, 0, none⟩ x).setCell ⟨g, 1, none⟩ y).setCell ⟨g, 2, none⟩ z).cell? ⟨g, 2, none⟩ = some z := by go_simp
  refine ⟨fun k hk => ?_, a0, a1, a2⟩
  have hk3 : k = 0 ∨ k = 1 ∨ k = 2 := by omega
  rcases hk3 with rfl | rfl | rfl
  · exact ⟨⟨_, a0⟩, by simpa using k0⟩
  · exact ⟨⟨_, a1⟩, by simpa using k1⟩
  · exact ⟨⟨_, a2⟩, by simpa using k2⟩

set_option linter.unusedVariables false in
/-- what the operations yield -/
def opV (g4 g5 g6 g8 : Nat) (H Q P1 P2 : Int) (ok gd : Bool) : Nat → Value → World → Prop
  | 0, x, _ => x = .agg #[.int .i64 0, .int .i64 H, .int .i64 Q]
  | 1, x, _ => x = .agg #[.int .i64 0, .int .i64 H, .int .i64 Q]
  | 2, x, _ => x = .bool ok
  | 3, x, w => x = x ∧ g6 < w.heap.size ∧ w.cell? ⟨g6, 0, none⟩ = some (.int .i64 0) ∧ w.cell? ⟨g6, 1, none⟩ = some (.int .i64 H) ∧ w.cell? ⟨g6, 2, none⟩ = some (.int .i64 Q)
  | 4, x, _ => x = .bool ok
  | _, _, _ => True

set_option linter.unusedVariables false in
/-- what the operations yield -/
def oqV (g4 g5 g6 g8 : Nat) (H Q P1 P2 : Int) (ok gd : Bool) : Nat → Value → World → Prop
  | 0, x, _ => x = .agg #[.int .i64 0, .int .i64 H, .int .i64 Q]
  | 1, x, _ => x = .pointer (some ⟨g4, 2, none⟩)
  | 2, x, _ => x = .int .i64 P1
  | 3, x, _ => x = .pointer (some ⟨g5, 2, none⟩)
  | 4, x, _ => x = .int .i64 P2
  | 5, x, _ => x = .bool gd
  | 6, x, _ => x = .bool gd
  | 7, x, _ => x = .agg #[.int .i64 0, .int .i64 H, .int .i64 Q]
  | 8, x, _ => x = .bool ok
  | 9, x, _ => x = .bool ok
  | 10, x, w => x = x ∧ g6 < w.heap.size ∧ w.cell? ⟨g6, 0, none⟩ = some (.int .i64 0) ∧ w.cell? ⟨g6, 1, none⟩ = some (.int .i64 H) ∧ w.cell? ⟨g6, 2, none⟩ = some (.int .i64 Q)
  | 11, x, _ => x = .bool ok
  | _, _, _ => True

set_option linter.unusedVariables false in
/-- what the operations yield -/
def orV (g4 g5 g6 g8 : Nat) (H Q P1 P2 : Int) (ok gd : Bool) : Nat → Value → World → Prop
  | 0, x, _ => x = .agg #[.int .i64 0, .int .i64 H, .int .i64 Q]
  | 1, x, _ => x = .pointer (some ⟨g4, 2, none⟩)
  | 2, x, _ => x = .int .i64 P1
  | 3, x, _ => x = .pointer (some ⟨g5, 2, none⟩)
  | 4, x, _ => x = .int .i64 P2
  | 5, x, _ => x = .bool gd
  | 6, x, _ => x = .bool gd
  | 7, x, _ => True
  | 8, x, _ => True
  | 9, x, _ => x = .bool ok
  | 10, x, w => x = x ∧ g6 < w.heap.size ∧ w.cell? ⟨g6, 0, none⟩ = some (.int .i64 0) ∧ w.cell? ⟨g6, 1, none⟩ = some (.int .i64 H) ∧ w.cell? ⟨g6, 2, none⟩ = some (.int .i64 Q)
  | 11, x, _ => x = .bool ok
  | _, _, _ => True

set_option maxHeartbeats 8000000 in
set_option maxRecDepth 20000 in
theorem onePipe_any (s : Bool) (k1 h1 p1 k2 h2 p2 : Int) (w : World) (g1 : (Tm.pipe h1 p1).good) (g2 : (Tm.pipe h2 p2).good) :
    Calls Try.prog 83 #[.int .i64 (kindI s), .agg #[.int .i64 k1, .int .i64 h1, .int .i64 p1], .agg #[.int .i64 k2, .int .i64 h2, .int .i64 p2]] w fun e w' => e = .returned (.tuple #[.agg #[.int .i64 0, .int .i64 (oneH s h1 h2), .int .i64 (oneP s p1 p2)], .bool (oneB s h1 p1 h2 p2)]) ∧ Below w.heap.size w w' := by
  obtain ⟨⟨a1, a2⟩, a3, a4⟩ := g1
  obtain ⟨⟨b1, b2⟩, b3, b4⟩ := g2
  obtain ⟨H, hH⟩ : ∃ H, oneH s h1 h2 = H := ⟨_, rfl⟩
  obtain ⟨Q, hQ⟩ : ∃ Q, oneP s p1 p2 = Q := ⟨_, rfl⟩
  rw [hH, hQ]
  obtain ⟨W7, hW7⟩ : ∃ W, W = (((w.alloc (.cells #[.int .i64 k1, .int .i64 h1, .int .i64 p1] 33)).alloc (.cells #[.int .i64 k2, .int .i64 h2, .int .i64 p2] 33)).alloc (.cells #[.int .i64 0, .int .i64 0, .int .i64 0] 33)).alloc (.cells #[.int .i64 0, .int .i64 H, .int .i64 Q] 33) := ⟨_, rfl⟩
  have hb7 : Below w.heap.size w W7 := by rw [hW7]; (repeat (first | (with_reducible assumption) | (with_reducible exact Below.refl _ _) | ((with_reducible refine Below.alloc ?_ ?hsz _); (case hsz => (first | omega | (simp; done) | (simp; omega) | (simp at *; omega)))) | ((with_reducible refine Below.setCell ?_ ?hsz _); (case hsz => (first | omega | (simp; done) | (simp; omega) | (simp at *; omega)))) | (with_reducible refine Below.drew ?_) | (with_reducible refine below_drewN ?_ _) | ((with_reducible refine Below.trans ?_ (Below.mono (by with_reducible assumption) ?hsz)); (case hsz => (first | omega | (simp; done) | (simp; omega) | (simp at *; omega))))))
  have hz7 : W7.heap.size = w.heap.size + 4 := by rw [hW7]; simp
  have f2 : W7.cell? ⟨w.heap.size, 2, none⟩ = some (.int .i64 p1) := by rw [hW7]; go_simp
  have s2 : W7.cell? ⟨w.heap.size + 1, 2, none⟩ = some (.int .i64 p2) := by rw [hW7]; go_simp
  have m0 : W7.cell? ⟨w.heap.size + 1 + 1 + 1, 0, none⟩ = some (.int .i64 0) := by rw [hW7]; go_simp
  have m1 : W7.cell? ⟨w.heap.size + 1 + 1 + 1, 1, none⟩ = some (.int .i64 H) := by rw [hW7]; go_simp
  have m2 : W7.cell? ⟨w.heap.size + 1 + 1 + 1, 2, none⟩ = some (.int .i64 Q) := by rw [hW7]; go_simp
  have h6c : ∀ k, k < 3 → (∃ v, W7.cell? ⟨w.heap.size + 1 + 1, k, none⟩ = some v) ∧ W7.frozen? ⟨w.heap.size + 1 + 1, k, none⟩ = false := by
    intro k hk
    have hk3 : k = 0 ∨ k = 1 ∨ k = 2 := by omega
    rcases hk3 with rfl | rfl | rfl
    all_goals exact ⟨⟨.int .i64 0, by rw [hW7]; go_simp⟩, by rw [hW7]; go_simp⟩
  cases s with
  | false =>
    have hk : kindI false = 1 := rfl
    rw [hk]
    have hQ' : p1 + p2 = Q := by rw [← hQ]; rfl
    have hHm : min h1 h2 = H := by rw [← hH]; rfl
    obtain ⟨bo, hbo⟩ : ∃ x, oneB false h1 p1 h2 p2 = x := ⟨_, rfl⟩
    have HOK := Lib.hid (show markB ⟨0, H, Q⟩ = bo by
      rw [← hbo]
      have e : oneB false h1 p1 h2 p2 = decide (Q ≤ 9) := by simp [oneB, hQ']
      rw [e]
      simp only [markB, if_true]
      by_cases h9 : Q ≤ 9
      · rw [decide_eq_true h9, decide_eq_true (by omega)]
      · rw [decide_eq_false h9, decide_eq_false (by omega)])
    rw [hbo]
    by_cases hm : h1 ≤ h2
    · have e1 : h1 = H := by omega
      subst e1
      clear hk hH hQ hHm hbo
      go_enter Try.func83, Try.ntmps83
      go_wp2_with fail
      rw [← hW7]
      clear hW7
      refine wp_region_flow 5 none [(0, 23), (1, 24), (2, 25), (4, 7)] (fun j x _ wx => opV w.heap.size (w.heap.size + 1) (w.heap.size + 1 + 1) (w.heap.size + 1 + 1 + 1) h1 Q p1 p2 bo true j x wx) (fun i wx wy => if i = 3 then True else Below wx.heap.size wx wy) (fun _ wx => W7.grownBy wx (some (w.heap.size + 1 + 1)) ∧ ∀ k, k < 3 → (∃ v, wx.cell? ⟨w.heap.size + 1 + 1, k, none⟩ = some v) ∧ wx.frozen? ⟨w.heap.size + 1 + 1, k, none⟩ = false) (by kernel_rfl) (by kernel_rfl) rfl ⟨grow_drew (grow_refl W7 _), fun k hk => h6c k hk⟩ ?_ ?_ ?_ ?_
      · intro i k hi hk hal x u wa wb hR hV
        have hk' : k < 5 := hk
        have hi' : i < 5 := hi
        by_cases ii : i = 3
        · subst ii
          rcases k with _ | _ | _ | _ | _ | k
          all_goals first | exact hV | (exfalso; revert hal; decide) | (exfalso; omega)
        · have hbb : Below wa.heap.size wa wb := by simpa [ii] using hR
          rcases k with _ | _ | _ | _ | _ | k
          all_goals first
            | exact hV
            | (exfalso; omega)
            | (obtain ⟨h0, h1, h2, h3, h4⟩ := hV; exact ⟨h0, Nat.lt_of_lt_of_le h1 hbb.size, (hbb.cell (p := ⟨_, 0, none⟩) h1).trans h2, (hbb.cell (p := ⟨_, 1, none⟩) h1).trans h3, (hbb.cell (p := ⟨_, 2, none⟩) h1).trans h4⟩)
      · exact fun _ _ _ _ _ _ _ h => h
      · simp (maxSteps := 4000000) only [eachOp, fillF, List.setIfInBounds_toArray, List.set_cons_succ, List.set_cons_zero]
        refine ⟨?_, ?_, ?_, ?_, ?_, trivial⟩ <;> intro u f wx hC hd <;> (try simp [allV, useOf, Region.binds] at hd)
        · obtain ⟨hg, hc6⟩ := hC
          have hgz := hg.size
          have e0 := (hg.cell_far ⟨w.heap.size + 1 + 1 + 1, 0, none⟩ (show w.heap.size + 1 + 1 + 1 < W7.heap.size by omega) (by intro h; injection h with h; dsimp only at h; omega)).trans m0
          have e1 := (hg.cell_far ⟨w.heap.size + 1 + 1 + 1, 1, none⟩ (show w.heap.size + 1 + 1 + 1 < W7.heap.size by omega) (by intro h; injection h with h; dsimp only at h; omega)).trans m1
          have e2 := (hg.cell_far ⟨w.heap.size + 1 + 1 + 1, 2, none⟩ (show w.heap.size + 1 + 1 + 1 < W7.heap.size by omega) (by intro h; injection h with h; dsimp only at h; omega)).trans m2
          go_wp2
          exact ⟨_, rfl, rfl, Below.refl _ _, hg, hc6⟩
        · obtain ⟨hg, hc6⟩ := hC
          have hgz := hg.size
          have e0 := (hg.cell_far ⟨w.heap.size + 1 + 1 + 1, 0, none⟩ (show w.heap.size + 1 + 1 + 1 < W7.heap.size by omega) (by intro h; injection h with h; dsimp only at h; omega)).trans m0
          have e1 := (hg.cell_far ⟨w.heap.size + 1 + 1 + 1, 1, none⟩ (show w.heap.size + 1 + 1 + 1 < W7.heap.size by omega) (by intro h; injection h with h; dsimp only at h; omega)).trans m1
          have e2 := (hg.cell_far ⟨w.heap.size + 1 + 1 + 1, 2, none⟩ (show w.heap.size + 1 + 1 + 1 < W7.heap.size by omega) (by intro h; injection h with h; dsimp only at h; omega)).trans m2
          go_wp2
          exact ⟨_, rfl, rfl, Below.refl _ _, hg, hc6⟩
        · rw [show u 1 = _ from (by first | exact hd | exact hd.1 | exact hd.2 | exact hd.2.1 | exact hd.2.2 | exact hd.2.2.1 | exact hd.2.2.2 | exact hd.2.2.2.1 | exact hd.2.2.2.2)]
          obtain ⟨hg, hc6⟩ := hC
          have hgz := hg.size
          go_wp2_with fail
          refine (markOk_any ⟨0, h1, Q⟩ wx).mono ?_
          rintro e wy ⟨rfl, hby⟩
          rw [HOK.out]
          go_wp2
          exact ⟨_, rfl, rfl, hby, grow_below hg hby, fun k hk => by obtain ⟨⟨v, h1⟩, h2⟩ := hc6 k hk; exact ⟨⟨v, (hby.cell (p := ⟨_, k, none⟩) (show w.heap.size + 1 + 1 < wx.heap.size by omega)).trans h1⟩, (hby.frozen (p := ⟨_, k, none⟩) (show w.heap.size + 1 + 1 < wx.heap.size by omega)).trans h2⟩⟩
        · rw [show u 0 = _ from (by first | exact hd | exact hd.1 | exact hd.2 | exact hd.2.1 | exact hd.2.2 | exact hd.2.2.1 | exact hd.2.2.2 | exact hd.2.2.2.1 | exact hd.2.2.2.2)]
          obtain ⟨hg, hc6⟩ := hC
          have hgz := hg.size
          obtain ⟨⟨v0, s0⟩, k0⟩ := hc6 0 (by omega)
          obtain ⟨⟨v1, s1⟩, k1⟩ := hc6 1 (by omega)
          obtain ⟨⟨v2, s2⟩, k2⟩ := hc6 2 (by omega)
          have h6x : w.heap.size + 1 + 1 < wx.heap.size := by omega
          obtain ⟨n6, n0, n1, n2⟩ := c6_set hc6 (.int .i64 0) (.int .i64 h1) (.int .i64 Q)
          go_wp2
          exact ⟨undef, rfl, ⟨rfl, by simpa using h6x, n0, n1, n2⟩, (if_pos rfl ▸ trivial : (if (3 : Nat) = 3 then True else _)), grow_set (grow_set (grow_set hg (.inr rfl) _) (.inr rfl) _) (.inr rfl) _, n6⟩
        · rw [show u 2 = _ from (by first | exact hd | exact hd.1 | exact hd.2 | exact hd.2.1 | exact hd.2.2 | exact hd.2.2.1 | exact hd.2.2.2 | exact hd.2.2.2.1 | exact hd.2.2.2.2)]
          obtain ⟨hg, hc6⟩ := hC
          have hgz := hg.size
          go_wp2
          exact ⟨_, rfl, rfl, Below.refl _ _, hg, hc6⟩
      · intro u f wx hC hfin
        simp only [fillEnd, fillF, Act.put, List.setIfInBounds_toArray, List.set_cons_succ, List.set_cons_zero]
        obtain ⟨-, hlt6, q0, q1, q2⟩ := hfin 3 (by decide) (by decide)
        have hlast : u 4 = .bool bo := hfin 4 (by decide) (by decide)
        rw [hlast]
        obtain ⟨hg, -⟩ := hC
        have hbF : Below w.heap.size w wx := hb7.trans (below_grow hg (by omega) (fun q hq => by injection hq with hq; omega))
        clear hfin hg
        go_wp2
        refine bodyPost_ret (v := .tuple #[.agg #[.int .i64 0, .int .i64 h1, .int .i64 Q], .bool bo]) (by simp [results, Try.results83, go_sem, q0, q1, q2]) rfl ⟨rfl, hbF⟩
    · have e1 : h2 = H := by omega
      subst e1
      clear hk hH hQ hHm hbo
      go_enter Try.func83, Try.ntmps83
      go_wp2_with fail
      rw [← hW7]
      clear hW7
      refine wp_region_flow 5 none [(0, 23), (1, 24), (2, 25), (4, 7)] (fun j x _ wx => opV w.heap.size (w.heap.size + 1) (w.heap.size + 1 + 1) (w.heap.size + 1 + 1 + 1) h2 Q p1 p2 bo true j x wx) (fun i wx wy => if i = 3 then True else Below wx.heap.size wx wy) (fun _ wx => W7.grownBy wx (some (w.heap.size + 1 + 1)) ∧ ∀ k, k < 3 → (∃ v, wx.cell? ⟨w.heap.size + 1 + 1, k, none⟩ = some v) ∧ wx.frozen? ⟨w.heap.size + 1 + 1, k, none⟩ = false) (by kernel_rfl) (by kernel_rfl) rfl ⟨grow_drew (grow_refl W7 _), fun k hk => h6c k hk⟩ ?_ ?_ ?_ ?_
      · intro i k hi hk hal x u wa wb hR hV
        have hk' : k < 5 := hk
        have hi' : i < 5 := hi
        by_cases ii : i = 3
        · subst ii
          rcases k with _ | _ | _ | _ | _ | k
          all_goals first | exact hV | (exfalso; revert hal; decide) | (exfalso; omega)
        · have hbb : Below wa.heap.size wa wb := by simpa [ii] using hR
          rcases k with _ | _ | _ | _ | _ | k
          all_goals first
            | exact hV
            | (exfalso; omega)
            | (obtain ⟨h0, h1, h2, h3, h4⟩ := hV; exact ⟨h0, Nat.lt_of_lt_of_le h1 hbb.size, (hbb.cell (p := ⟨_, 0, none⟩) h1).trans h2, (hbb.cell (p := ⟨_, 1, none⟩) h1).trans h3, (hbb.cell (p := ⟨_, 2, none⟩) h1).trans h4⟩)
      · exact fun _ _ _ _ _ _ _ h => h
      · simp (maxSteps := 4000000) only [eachOp, fillF, List.setIfInBounds_toArray, List.set_cons_succ, List.set_cons_zero]
        refine ⟨?_, ?_, ?_, ?_, ?_, trivial⟩ <;> intro u f wx hC hd <;> (try simp [allV, useOf, Region.binds] at hd)
        · obtain ⟨hg, hc6⟩ := hC
          have hgz := hg.size
          have e0 := (hg.cell_far ⟨w.heap.size + 1 + 1 + 1, 0, none⟩ (show w.heap.size + 1 + 1 + 1 < W7.heap.size by omega) (by intro h; injection h with h; dsimp only at h; omega)).trans m0
          have e1 := (hg.cell_far ⟨w.heap.size + 1 + 1 + 1, 1, none⟩ (show w.heap.size + 1 + 1 + 1 < W7.heap.size by omega) (by intro h; injection h with h; dsimp only at h; omega)).trans m1
          have e2 := (hg.cell_far ⟨w.heap.size + 1 + 1 + 1, 2, none⟩ (show w.heap.size + 1 + 1 + 1 < W7.heap.size by omega) (by intro h; injection h with h; dsimp only at h; omega)).trans m2
          go_wp2
          exact ⟨_, rfl, rfl, Below.refl _ _, hg, hc6⟩
        · obtain ⟨hg, hc6⟩ := hC
          have hgz := hg.size
          have e0 := (hg.cell_far ⟨w.heap.size + 1 + 1 + 1, 0, none⟩ (show w.heap.size + 1 + 1 + 1 < W7.heap.size by omega) (by intro h; injection h with h; dsimp only at h; omega)).trans m0
          have e1 := (hg.cell_far ⟨w.heap.size + 1 + 1 + 1, 1, none⟩ (show w.heap.size + 1 + 1 + 1 < W7.heap.size by omega) (by intro h; injection h with h; dsimp only at h; omega)).trans m1
          have e2 := (hg.cell_far ⟨w.heap.size + 1 + 1 + 1, 2, none⟩ (show w.heap.size + 1 + 1 + 1 < W7.heap.size by omega) (by intro h; injection h with h; dsimp only at h; omega)).trans m2
          go_wp2
          exact ⟨_, rfl, rfl, Below.refl _ _, hg, hc6⟩
        · rw [show u 1 = _ from (by first | exact hd | exact hd.1 | exact hd.2 | exact hd.2.1 | exact hd.2.2 | exact hd.2.2.1 | exact hd.2.2.2 | exact hd.2.2.2.1 | exact hd.2.2.2.2)]
          obtain ⟨hg, hc6⟩ := hC
          have hgz := hg.size
          go_wp2_with fail
          refine (markOk_any ⟨0, h2, Q⟩ wx).mono ?_
          rintro e wy ⟨rfl, hby⟩
          rw [HOK.out]
          go_wp2
          exact ⟨_, rfl, rfl, hby, grow_below hg hby, fun k hk => by obtain ⟨⟨v, h1⟩, h2⟩ := hc6 k hk; exact ⟨⟨v, (hby.cell (p := ⟨_, k, none⟩) (show w.heap.size + 1 + 1 < wx.heap.size by omega)).trans h1⟩, (hby.frozen (p := ⟨_, k, none⟩) (show w.heap.size + 1 + 1 < wx.heap.size by omega)).trans h2⟩⟩
        · rw [show u 0 = _ from (by first | exact hd | exact hd.1 | exact hd.2 | exact hd.2.1 | exact hd.2.2 | exact hd.2.2.1 | exact hd.2.2.2 | exact hd.2.2.2.1 | exact hd.2.2.2.2)]
          obtain ⟨hg, hc6⟩ := hC
          have hgz := hg.size
          obtain ⟨⟨v0, s0⟩, k0⟩ := hc6 0 (by omega)
          obtain ⟨⟨v1, s1⟩, k1⟩ := hc6 1 (by omega)
          obtain ⟨⟨v2, s2⟩, k2⟩ := hc6 2 (by omega)
          have h6x : w.heap.size + 1 + 1 < wx.heap.size := by omega
          obtain ⟨n6, n0, n1, n2⟩ := c6_set hc6 (.int .i64 0) (.int .i64 h2) (.int .i64 Q)
          go_wp2
          exact ⟨undef, rfl, ⟨rfl, by simpa using h6x, n0, n1, n2⟩, (if_pos rfl ▸ trivial : (if (3 : Nat) = 3 then True else _)), grow_set (grow_set (grow_set hg (.inr rfl) _) (.inr rfl) _) (.inr rfl) _, n6⟩
        · rw [show u 2 = _ from (by first | exact hd | exact hd.1 | exact hd.2 | exact hd.2.1 | exact hd.2.2 | exact hd.2.2.1 | exact hd.2.2.2 | exact hd.2.2.2.1 | exact hd.2.2.2.2)]
          obtain ⟨hg, hc6⟩ := hC
          have hgz := hg.size
          go_wp2
          exact ⟨_, rfl, rfl, Below.refl _ _, hg, hc6⟩
      · intro u f wx hC hfin
        simp only [fillEnd, fillF, Act.put, List.setIfInBounds_toArray, List.set_cons_succ, List.set_cons_zero]
        obtain ⟨-, hlt6, q0, q1, q2⟩ := hfin 3 (by decide) (by decide)
        have hlast : u 4 = .bool bo := hfin 4 (by decide) (by decide)
        rw [hlast]
        obtain ⟨hg, -⟩ := hC
        have hbF : Below w.heap.size w wx := hb7.trans (below_grow hg (by omega) (fun q hq => by injection hq with hq; omega))
        clear hfin hg
        go_wp2
        refine bodyPost_ret (v := .tuple #[.agg #[.int .i64 0, .int .i64 h2, .int .i64 Q], .bool bo]) (by simp [results, Try.results83, go_sem, q0, q1, q2]) rfl ⟨rfl, hbF⟩
  | true =>
    have hk : kindI true = 2 := rfl
    rw [hk]
    have hQ' : p1 = Q := by rw [← hQ]; rfl
    have hHm : h1 + h2 = H := by rw [← hH]; rfl
    subst hQ'
    obtain ⟨bo, hbo⟩ : ∃ x, oneB true h1 p1 h2 p2 = x := ⟨_, rfl⟩
    rw [hbo]
    by_cases hp : p1 = p2
    · have HOK := Lib.hid (show markB ⟨0, H, p1⟩ = bo by
        rw [← hbo]
        have e : oneB true h1 p1 h2 p2 = decide (H ≤ 4) := by simp [oneB, hp, hHm]
        rw [e]
        simp only [markB, if_true]
        by_cases h9 : H ≤ 4
        · rw [decide_eq_true h9, decide_eq_true (by omega)]
        · rw [decide_eq_false h9, decide_eq_false (by omega)])
      have hpe : (p1 == p2) = true := by simpa using hp
      clear hk hH hQ hbo hp
      go_enter Try.func83, Try.ntmps83
      go_wp2_with fail
      rw [← hW7]
      clear hW7
      refine wp_region_flow 12 none [(0, 34), (1, 35), (2, 36), (3, 37), (4, 38), (5, 39), (6, 40), (7, 41), (8, 42), (9, 43), (11, 7)] (fun j x _ wx => oqV w.heap.size (w.heap.size + 1) (w.heap.size + 1 + 1) (w.heap.size + 1 + 1 + 1) H p1 p1 p2 bo true j x wx) (fun i wx wy => if i = 10 then True else Below wx.heap.size wx wy) (fun _ wx => W7.grownBy wx (some (w.heap.size + 1 + 1)) ∧ ∀ k, k < 3 → (∃ v, wx.cell? ⟨w.heap.size + 1 + 1, k, none⟩ = some v) ∧ wx.frozen? ⟨w.heap.size + 1 + 1, k, none⟩ = false) (by kernel_rfl) (by kernel_rfl) rfl ⟨grow_drew (grow_refl W7 _), fun k hk => h6c k hk⟩ ?_ ?_ ?_ ?_
      · intro i k hi hk hal x u wa wb hR hV
        have hk' : k < 12 := hk
        have hi' : i < 12 := hi
        by_cases ii : i = 10
        · subst ii
          rcases k with _ | _ | _ | _ | _ | _ | _ | _ | _ | _ | _ | _ | k
          all_goals first | exact hV | (exfalso; revert hal; decide) | (exfalso; omega)
        · have hbb : Below wa.heap.size wa wb := by simpa [ii] using hR
          rcases k with _ | _ | _ | _ | _ | _ | _ | _ | _ | _ | _ | _ | k
          all_goals first
            | exact hV
            | (exfalso; omega)
            | (obtain ⟨h0, h1, h2, h3, h4⟩ := hV; exact ⟨h0, Nat.lt_of_lt_of_le h1 hbb.size, (hbb.cell (p := ⟨_, 0, none⟩) h1).trans h2, (hbb.cell (p := ⟨_, 1, none⟩) h1).trans h3, (hbb.cell (p := ⟨_, 2, none⟩) h1).trans h4⟩)
      · exact fun _ _ _ _ _ _ _ h => h
      · simp (maxSteps := 4000000) only [eachOp, fillF, List.setIfInBounds_toArray, List.set_cons_succ, List.set_cons_zero]
        refine ⟨?_, ?_, ?_, ?_, ?_, ?_, ?_, ?_, ?_, ?_, ?_, ?_, trivial⟩ <;> intro u f wx hC hd <;> (try simp [allV, useOf, Region.binds] at hd)
        · obtain ⟨hg, hc6⟩ := hC
          have hgz := hg.size
          have e0 := (hg.cell_far ⟨w.heap.size + 1 + 1 + 1, 0, none⟩ (show w.heap.size + 1 + 1 + 1 < W7.heap.size by omega) (by intro h; injection h with h; dsimp only at h; omega)).trans m0
          have e1 := (hg.cell_far ⟨w.heap.size + 1 + 1 + 1, 1, none⟩ (show w.heap.size + 1 + 1 + 1 < W7.heap.size by omega) (by intro h; injection h with h; dsimp only at h; omega)).trans m1
          have e2 := (hg.cell_far ⟨w.heap.size + 1 + 1 + 1, 2, none⟩ (show w.heap.size + 1 + 1 + 1 < W7.heap.size by omega) (by intro h; injection h with h; dsimp only at h; omega)).trans m2
          go_wp2
          exact ⟨_, rfl, rfl, Below.refl _ _, hg, hc6⟩
        · obtain ⟨hg, hc6⟩ := hC
          have hgz := hg.size
          go_wp2
          exact ⟨_, rfl, rfl, Below.refl _ _, hg, hc6⟩
        · rw [show u 1 = _ from (by first | exact hd | exact hd.1 | exact hd.2 | exact hd.2.1 | exact hd.2.2 | exact hd.2.2.1 | exact hd.2.2.2 | exact hd.2.2.2.1 | exact hd.2.2.2.2)]
          obtain ⟨hg, hc6⟩ := hC
          have hgz := hg.size
          have e0 := (hg.cell_far ⟨w.heap.size, 2, none⟩ (show w.heap.size < W7.heap.size by omega) (by intro h; injection h with h; dsimp only at h; omega)).trans f2
          go_wp2
          exact ⟨_, rfl, rfl, Below.refl _ _, hg, hc6⟩
        · obtain ⟨hg, hc6⟩ := hC
          have hgz := hg.size
          go_wp2
          exact ⟨_, rfl, rfl, Below.refl _ _, hg, hc6⟩
        · rw [show u 3 = _ from (by first | exact hd | exact hd.1 | exact hd.2 | exact hd.2.1 | exact hd.2.2 | exact hd.2.2.1 | exact hd.2.2.2 | exact hd.2.2.2.1 | exact hd.2.2.2.2)]
          obtain ⟨hg, hc6⟩ := hC
          have hgz := hg.size
          have e0 := (hg.cell_far ⟨w.heap.size + 1, 2, none⟩ (show w.heap.size + 1 < W7.heap.size by omega) (by intro h; injection h with h; dsimp only at h; omega)).trans s2
          go_wp2
          exact ⟨_, rfl, rfl, Below.refl _ _, hg, hc6⟩
        · rw [show u 2 = _ from (by first | exact hd | exact hd.1 | exact hd.2 | exact hd.2.1 | exact hd.2.2 | exact hd.2.2.1 | exact hd.2.2.2 | exact hd.2.2.2.1 | exact hd.2.2.2.2), show u 4 = _ from (by first | exact hd | exact hd.1 | exact hd.2 | exact hd.2.1 | exact hd.2.2 | exact hd.2.2.1 | exact hd.2.2.2 | exact hd.2.2.2.1 | exact hd.2.2.2.2)]
          obtain ⟨hg, hc6⟩ := hC
          have hgz := hg.size
          go_wp2
          exact ⟨_, rfl, rfl, Below.refl _ _, hg, hc6⟩
        · rw [show u 5 = _ from (by first | exact hd | exact hd.1 | exact hd.2 | exact hd.2.1 | exact hd.2.2 | exact hd.2.2.1 | exact hd.2.2.2 | exact hd.2.2.2.1 | exact hd.2.2.2.2)]
          obtain ⟨hg, hc6⟩ := hC
          have hgz := hg.size
          go_wp2
          exact ⟨_, rfl, rfl, Below.refl _ _, hg, hc6⟩
        · rw [show u 6 = .bool true from (by first | exact hd | exact hd.1 | exact hd.2 | exact hd.2.1 | exact hd.2.2)]
          obtain ⟨hg, hc6⟩ := hC
          have hgz := hg.size
          have e0 := (hg.cell_far ⟨w.heap.size + 1 + 1 + 1, 0, none⟩ (show w.heap.size + 1 + 1 + 1 < W7.heap.size by omega) (by intro h; injection h with h; dsimp only at h; omega)).trans m0
          have e1 := (hg.cell_far ⟨w.heap.size + 1 + 1 + 1, 1, none⟩ (show w.heap.size + 1 + 1 + 1 < W7.heap.size by omega) (by intro h; injection h with h; dsimp only at h; omega)).trans m1
          have e2 := (hg.cell_far ⟨w.heap.size + 1 + 1 + 1, 2, none⟩ (show w.heap.size + 1 + 1 + 1 < W7.heap.size by omega) (by intro h; injection h with h; dsimp only at h; omega)).trans m2
          go_wp2
          exact ⟨_, rfl, rfl, Below.refl _ _, hg, hc6⟩
        · rw [show u 7 = _ from (by first | exact hd | exact hd.1 | exact hd.2 | exact hd.2.1 | exact hd.2.2 | exact hd.2.2.1 | exact hd.2.2.2 | exact hd.2.2.2.1 | exact hd.2.2.2.2)]
          rw [show u 6 = .bool true from (by first | exact hd | exact hd.1 | exact hd.2 | exact hd.2.1 | exact hd.2.2)]
          obtain ⟨hg, hc6⟩ := hC
          have hgz := hg.size
          go_wp2_with fail
          refine (markOk_any ⟨0, H, p1⟩ wx).mono ?_
          rintro e wy ⟨rfl, hby⟩
          rw [HOK.out]
          go_wp2
          exact ⟨_, rfl, rfl, hby, grow_below hg hby, fun k hk => by obtain ⟨⟨v, h1⟩, h2⟩ := hc6 k hk; exact ⟨⟨v, (hby.cell (p := ⟨_, k, none⟩) (show w.heap.size + 1 + 1 < wx.heap.size by omega)).trans h1⟩, (hby.frozen (p := ⟨_, k, none⟩) (show w.heap.size + 1 + 1 < wx.heap.size by omega)).trans h2⟩⟩
        · rw [show u 6 = _ from (by first | exact hd | exact hd.1 | exact hd.2 | exact hd.2.1 | exact hd.2.2 | exact hd.2.2.1 | exact hd.2.2.2 | exact hd.2.2.2.1 | exact hd.2.2.2.2), show u 8 = _ from (by first | exact hd | exact hd.1 | exact hd.2 | exact hd.2.1 | exact hd.2.2 | exact hd.2.2.1 | exact hd.2.2.2 | exact hd.2.2.2.1 | exact hd.2.2.2.2)]
          obtain ⟨hg, hc6⟩ := hC
          have hgz := hg.size
          go_wp2
          exact ⟨_, rfl, rfl, Below.refl _ _, hg, hc6⟩
        · rw [show u 0 = _ from (by first | exact hd | exact hd.1 | exact hd.2 | exact hd.2.1 | exact hd.2.2 | exact hd.2.2.1 | exact hd.2.2.2 | exact hd.2.2.2.1 | exact hd.2.2.2.2)]
          obtain ⟨hg, hc6⟩ := hC
          have hgz := hg.size
          obtain ⟨⟨v0, s0⟩, k0⟩ := hc6 0 (by omega)
          obtain ⟨⟨v1, s1⟩, k1⟩ := hc6 1 (by omega)
          obtain ⟨⟨v2, s2⟩, k2⟩ := hc6 2 (by omega)
          have h6x : w.heap.size + 1 + 1 < wx.heap.size := by omega
          obtain ⟨n6, n0, n1, n2⟩ := c6_set hc6 (.int .i64 0) (.int .i64 H) (.int .i64 p1)
          go_wp2
          exact ⟨undef, rfl, ⟨rfl, by simpa using h6x, n0, n1, n2⟩, (if_pos rfl ▸ trivial : (if (10 : Nat) = 10 then True else _)), grow_set (grow_set (grow_set hg (.inr rfl) _) (.inr rfl) _) (.inr rfl) _, n6⟩
        · rw [show u 9 = _ from (by first | exact hd | exact hd.1 | exact hd.2 | exact hd.2.1 | exact hd.2.2 | exact hd.2.2.1 | exact hd.2.2.2 | exact hd.2.2.2.1 | exact hd.2.2.2.2)]
          obtain ⟨hg, hc6⟩ := hC
          have hgz := hg.size
          go_wp2
          exact ⟨_, rfl, rfl, Below.refl _ _, hg, hc6⟩
      · intro u f wx hC hfin
        simp only [fillEnd, fillF, Act.put, List.setIfInBounds_toArray, List.set_cons_succ, List.set_cons_zero]
        obtain ⟨-, hlt6, q0, q1, q2⟩ := hfin 10 (by decide) (by decide)
        have hlast : u 11 = .bool bo := hfin 11 (by decide) (by decide)
        rw [hlast]
        obtain ⟨hg, -⟩ := hC
        have hbF : Below w.heap.size w wx := hb7.trans (below_grow hg (by omega) (fun q hq => by injection hq with hq; omega))
        clear hfin hg
        go_wp2
        refine bodyPost_ret (v := .tuple #[.agg #[.int .i64 0, .int .i64 H, .int .i64 p1], .bool bo]) (by simp [results, Try.results83, go_sem, q0, q1, q2]) rfl ⟨rfl, hbF⟩
    · have hb0 : bo = false := by rw [← hbo]; simp [oneB, hp]
      subst hb0
      have hpe : (p1 == p2) = false := by simpa using hp
      clear hk hH hQ hbo hp
      go_enter Try.func83, Try.ntmps83
      go_wp2_with fail
      rw [← hW7]
      clear hW7
      refine wp_region_flow 12 none [(0, 34), (1, 35), (2, 36), (3, 37), (4, 38), (5, 39), (6, 40), (7, 41), (8, 42), (9, 43), (11, 7)] (fun j x _ wx => orV w.heap.size (w.heap.size + 1) (w.heap.size + 1 + 1) (w.heap.size + 1 + 1 + 1) H p1 p1 p2 false false j x wx) (fun i wx wy => if i = 10 then True else Below wx.heap.size wx wy) (fun _ wx => W7.grownBy wx (some (w.heap.size + 1 + 1)) ∧ ∀ k, k < 3 → (∃ v, wx.cell? ⟨w.heap.size + 1 + 1, k, none⟩ = some v) ∧ wx.frozen? ⟨w.heap.size + 1 + 1, k, none⟩ = false) (by kernel_rfl) (by kernel_rfl) rfl ⟨grow_drew (grow_refl W7 _), fun k hk => h6c k hk⟩ ?_ ?_ ?_ ?_
      · intro i k hi hk hal x u wa wb hR hV
        have hk' : k < 12 := hk
        have hi' : i < 12 := hi
        by_cases ii : i = 10
        · subst ii
          rcases k with _ | _ | _ | _ | _ | _ | _ | _ | _ | _ | _ | _ | k
          all_goals first | exact hV | (exfalso; revert hal; decide) | (exfalso; omega)
        · have hbb : Below wa.heap.size wa wb := by simpa [ii] using hR
          rcases k with _ | _ | _ | _ | _ | _ | _ | _ | _ | _ | _ | _ | k
          all_goals first
            | exact hV
            | (exfalso; omega)
            | (obtain ⟨h0, h1, h2, h3, h4⟩ := hV; exact ⟨h0, Nat.lt_of_lt_of_le h1 hbb.size, (hbb.cell (p := ⟨_, 0, none⟩) h1).trans h2, (hbb.cell (p := ⟨_, 1, none⟩) h1).trans h3, (hbb.cell (p := ⟨_, 2, none⟩) h1).trans h4⟩)
      · exact fun _ _ _ _ _ _ _ h => h
      · simp (maxSteps := 4000000) only [eachOp, fillF, List.setIfInBounds_toArray, List.set_cons_succ, List.set_cons_zero]
        refine ⟨?_, ?_, ?_, ?_, ?_, ?_, ?_, ?_, ?_, ?_, ?_, ?_, trivial⟩ <;> intro u f wx hC hd <;> (try simp [allV, useOf, Region.binds] at hd)
        · obtain ⟨hg, hc6⟩ := hC
          have hgz := hg.size
          have e0 := (hg.cell_far ⟨w.heap.size + 1 + 1 + 1, 0, none⟩ (show w.heap.size + 1 + 1 + 1 < W7.heap.size by omega) (by intro h; injection h with h; dsimp only at h; omega)).trans m0
          have e1 := (hg.cell_far ⟨w.heap.size + 1 + 1 + 1, 1, none⟩ (show w.heap.size + 1 + 1 + 1 < W7.heap.size by omega) (by intro h; injection h with h; dsimp only at h; omega)).trans m1
          have e2 := (hg.cell_far ⟨w.heap.size + 1 + 1 + 1, 2, none⟩ (show w.heap.size + 1 + 1 + 1 < W7.heap.size by omega) (by intro h; injection h with h; dsimp only at h; omega)).trans m2
          go_wp2
          exact ⟨_, rfl, rfl, Below.refl _ _, hg, hc6⟩
        · obtain ⟨hg, hc6⟩ := hC
          have hgz := hg.size
          go_wp2
          exact ⟨_, rfl, rfl, Below.refl _ _, hg, hc6⟩
        · rw [show u 1 = _ from (by first | exact hd | exact hd.1 | exact hd.2 | exact hd.2.1 | exact hd.2.2 | exact hd.2.2.1 | exact hd.2.2.2 | exact hd.2.2.2.1 | exact hd.2.2.2.2)]
          obtain ⟨hg, hc6⟩ := hC
          have hgz := hg.size
          have e0 := (hg.cell_far ⟨w.heap.size, 2, none⟩ (show w.heap.size < W7.heap.size by omega) (by intro h; injection h with h; dsimp only at h; omega)).trans f2
          go_wp2
          exact ⟨_, rfl, rfl, Below.refl _ _, hg, hc6⟩
        · obtain ⟨hg, hc6⟩ := hC
          have hgz := hg.size
          go_wp2
          exact ⟨_, rfl, rfl, Below.refl _ _, hg, hc6⟩
        · rw [show u 3 = _ from (by first | exact hd | exact hd.1 | exact hd.2 | exact hd.2.1 | exact hd.2.2 | exact hd.2.2.1 | exact hd.2.2.2 | exact hd.2.2.2.1 | exact hd.2.2.2.2)]
          obtain ⟨hg, hc6⟩ := hC
          have hgz := hg.size
          have e0 := (hg.cell_far ⟨w.heap.size + 1, 2, none⟩ (show w.heap.size + 1 < W7.heap.size by omega) (by intro h; injection h with h; dsimp only at h; omega)).trans s2
          go_wp2
          exact ⟨_, rfl, rfl, Below.refl _ _, hg, hc6⟩
        · rw [show u 2 = _ from (by first | exact hd | exact hd.1 | exact hd.2 | exact hd.2.1 | exact hd.2.2 | exact hd.2.2.1 | exact hd.2.2.2 | exact hd.2.2.2.1 | exact hd.2.2.2.2), show u 4 = _ from (by first | exact hd | exact hd.1 | exact hd.2 | exact hd.2.1 | exact hd.2.2 | exact hd.2.2.1 | exact hd.2.2.2 | exact hd.2.2.2.1 | exact hd.2.2.2.2)]
          obtain ⟨hg, hc6⟩ := hC
          have hgz := hg.size
          go_wp2
          exact ⟨_, rfl, rfl, Below.refl _ _, hg, hc6⟩
        · rw [show u 5 = _ from (by first | exact hd | exact hd.1 | exact hd.2 | exact hd.2.1 | exact hd.2.2 | exact hd.2.2.1 | exact hd.2.2.2 | exact hd.2.2.2.1 | exact hd.2.2.2.2)]
          obtain ⟨hg, hc6⟩ := hC
          have hgz := hg.size
          go_wp2
          exact ⟨_, rfl, rfl, Below.refl _ _, hg, hc6⟩
        · rw [show u 6 = .bool false from (by first | exact hd | exact hd.1 | exact hd.2 | exact hd.2.1 | exact hd.2.2)]
          obtain ⟨hg, hc6⟩ := hC
          have hgz := hg.size
          have e0 := (hg.cell_far ⟨w.heap.size + 1 + 1 + 1, 0, none⟩ (show w.heap.size + 1 + 1 + 1 < W7.heap.size by omega) (by intro h; injection h with h; dsimp only at h; omega)).trans m0
          have e1 := (hg.cell_far ⟨w.heap.size + 1 + 1 + 1, 1, none⟩ (show w.heap.size + 1 + 1 + 1 < W7.heap.size by omega) (by intro h; injection h with h; dsimp only at h; omega)).trans m1
          have e2 := (hg.cell_far ⟨w.heap.size + 1 + 1 + 1, 2, none⟩ (show w.heap.size + 1 + 1 + 1 < W7.heap.size by omega) (by intro h; injection h with h; dsimp only at h; omega)).trans m2
          go_wp2
          exact ⟨_, rfl, trivial, Below.refl _ _, hg, hc6⟩
        · rw [show u 6 = .bool false from (by first | exact hd | exact hd.1 | exact hd.2 | exact hd.2.1 | exact hd.2.2)]
          obtain ⟨hg, hc6⟩ := hC
          have hgz := hg.size
          go_wp2
          exact ⟨_, rfl, trivial, Below.refl _ _, hg, hc6⟩
        · rw [show u 6 = _ from (by first | exact hd | exact hd.1 | exact hd.2 | exact hd.2.1 | exact hd.2.2 | exact hd.2.2.1 | exact hd.2.2.2 | exact hd.2.2.2.1 | exact hd.2.2.2.2)]
          obtain ⟨hg, hc6⟩ := hC
          have hgz := hg.size
          go_wp2
          exact ⟨_, rfl, rfl, Below.refl _ _, hg, hc6⟩
        · rw [show u 0 = _ from (by first | exact hd | exact hd.1 | exact hd.2 | exact hd.2.1 | exact hd.2.2 | exact hd.2.2.1 | exact hd.2.2.2 | exact hd.2.2.2.1 | exact hd.2.2.2.2)]
          obtain ⟨hg, hc6⟩ := hC
          have hgz := hg.size
          obtain ⟨⟨v0, s0⟩, k0⟩ := hc6 0 (by omega)
          obtain ⟨⟨v1, s1⟩, k1⟩ := hc6 1 (by omega)
          obtain ⟨⟨v2, s2⟩, k2⟩ := hc6 2 (by omega)
          have h6x : w.heap.size + 1 + 1 < wx.heap.size := by omega
          obtain ⟨n6, n0, n1, n2⟩ := c6_set hc6 (.int .i64 0) (.int .i64 H) (.int .i64 p1)
          go_wp2
          exact ⟨undef, rfl, ⟨rfl, by simpa using h6x, n0, n1, n2⟩, (if_pos rfl ▸ trivial : (if (10 : Nat) = 10 then True else _)), grow_set (grow_set (grow_set hg (.inr rfl) _) (.inr rfl) _) (.inr rfl) _, n6⟩
        · rw [show u 9 = _ from (by first | exact hd | exact hd.1 | exact hd.2 | exact hd.2.1 | exact hd.2.2 | exact hd.2.2.1 | exact hd.2.2.2 | exact hd.2.2.2.1 | exact hd.2.2.2.2)]
          obtain ⟨hg, hc6⟩ := hC
          have hgz := hg.size
          go_wp2
          exact ⟨_, rfl, rfl, Below.refl _ _, hg, hc6⟩
      · intro u f wx hC hfin
        simp only [fillEnd, fillF, Act.put, List.setIfInBounds_toArray, List.set_cons_succ, List.set_cons_zero]
        obtain ⟨-, hlt6, q0, q1, q2⟩ := hfin 10 (by decide) (by decide)
        have hlast : u 11 = .bool false := hfin 11 (by decide) (by decide)
        rw [hlast]
        obtain ⟨hg, -⟩ := hC
        have hbF : Below w.heap.size w wx := hb7.trans (below_grow hg (by omega) (fun q hq => by injection hq with hq; omega))
        clear hfin hg
        go_wp2
        refine bodyPost_ret (v := .tuple #[.agg #[.int .i64 0, .int .i64 H, .int .i64 p1], .bool false]) (by simp [results, Try.results83, go_sem, q0, q1, q2]) rfl ⟨rfl, hbF⟩

end Go.Proofs.Ytaohjhehlkeckaa

/- Contracts of the functions of chapter 9 in the program: madeOne. -/
namespace Go.Proofs.Ytaohjhehlkeckaa
open Go.RowKit

/-- what the operations yield -/
def maV (B ga gb : Nat) (r1 r2 : Value) (h1 p1 h2 p2 H Q kd : Int) (ok : Bool) : Nat → Value → (Nat → Value) → World → Prop
  | 0, x, _, _ => x = .int .i64 kd
  | 1, x, _, _ => x = r1
  | 2, x, _, _ => x = .pointer (some ⟨ga, 0, none⟩)
  | 3, x, _, _ => x = .agg #[.int .i64 0, .int .i64 h1, .int .i64 p1]
  | 4, x, _, _ => x = r2
  | 5, x, _, _ => x = .pointer (some ⟨gb, 0, none⟩)
  | 6, x, _, _ => x = .agg #[.int .i64 0, .int .i64 h2, .int .i64 p2]
  | 7, x, _, _ => x = .tuple #[.agg #[.int .i64 0, .int .i64 H, .int .i64 Q], .bool ok]
  | 8, x, _, _ => x = .tuple #[.agg #[.int .i64 0, .int .i64 H, .int .i64 Q], .bool ok]
  | 9, x, _, _ => x = .agg #[.int .i64 0, .int .i64 H, .int .i64 Q]
  | 10, x, _, _ => x = .bool ok
  | 11, x, _, w => ∃ g x0 x1 x2, x = .pointer (some ⟨g, 0, none⟩) ∧ B ≤ g ∧ w.heap[g]? = some (.cells #[x0, x1, x2] 33 (0, 0))
  | 12, _, u, w => ∃ g, u 11 = .pointer (some ⟨g, 0, none⟩) ∧ B ≤ g ∧ w.heap[g]? = some (.cells #[.int .i64 0, .int .i64 H, .int .i64 Q] 33 (0, 0))
  | 13, x, _, _ => x = .bool ok
  | _, _, _, _ => True

set_option maxHeartbeats 8000000 in
set_option maxRecDepth 20000 in
theorem madeOne_any (s : Bool) (x y : Tm) (u v : Value) (b b' : Nat) (w : World) (hu : Marks w b u x.marks) (hv : Marks w b' v y.marks) (gx : x.good) (gy : y.good) (hl : x.marks.length + y.marks.length ≤ 90) :
    Calls Try.prog 68 #[.int .i64 (kindI s), u, v] w fun e w' => ∃ r, e = .returned r ∧ Marks w' w.heap.size r (mergeT s x y).marks ∧ Below w.heap.size w w' := by
  by_cases hone : x.marks.length = 1 ∧ y.marks.length = 1
  · obtain ⟨h1, p1, rfl⟩ := one_pipe hone.1
    obtain ⟨h2, p2, rfl⟩ := one_pipe hone.2
    have hg1 := gx
    have hg2 := gy
    clear hone hl
    simp only [Tm.marks] at hu hv
    obtain ⟨A1, c1, rfl, hk1, hk2, -, hc1⟩ := hu.form
    obtain ⟨A2, c2, rfl, hk3, hk4, -, hc2⟩ := hv.form
    obtain ⟨ga, rfl, -, hga, a0, a1, a2⟩ := hc1 w (Below.refl _ _) 0 (by simp)
    obtain ⟨gb, rfl, -, hgb, c0, c1', c2'⟩ := hc2 w (Below.refl _ _) 0 (by simp)
    unfold maxLen at hk2 hk4
    simp only [List.getElem_cons_zero, Nat.zero_mul, Nat.zero_add] at a0 a1 a2 c0 c1' c2'
    simp only [List.length_cons, List.length_nil, Nat.zero_add] at hu hv hk1 hk3 ⊢
    have HM1 := Lib.hid hu
    have HM2 := Lib.hid hv
    obtain ⟨H, hH⟩ : ∃ H, oneH s h1 h2 = H := ⟨_, rfl⟩
    obtain ⟨Q, hQ⟩ : ∃ Q, oneP s p1 p2 = Q := ⟨_, rfl⟩
    obtain ⟨ok, hok⟩ : ∃ x, oneB s h1 p1 h2 p2 = x := ⟨_, rfl⟩
    have HOQ := Lib.hid (And.intro hH (And.intro hQ hok))
    obtain ⟨kd, hkd⟩ : ∃ x, kindI s = x := ⟨_, rfl⟩
    have HKD := Lib.hid (show (Tm.two s (.pipe h1 p1) (.pipe h2 p2)).marks = [⟨0, h1, p1⟩] ++ [⟨0, h2, p2⟩] ++ [⟨kd, 0, 0⟩] by rw [← hkd]; rfl)
    have HK := Lib.hid hkd
    rw [hkd]
    have c1'' := c1'
    have c2'' := c2'
    clear hu hv hH hQ hok hkd hc1 hc2
    go_enter Try.func68, Try.ntmps68
    go_wp2_with fail
    refine wp_region_flow 14 none [(0, 18), (1, 19), (2, 20), (3, 21), (4, 22), (5, 23), (6, 24), (7, 25), (8, 17), (9, 26), (10, 27), (11, 7), (13, 8)] (fun j x u wx => maV w.heap.size ga gb (.slice (some ⟨ga, 0, none⟩) 1 c1) (.slice (some ⟨gb, 0, none⟩) 1 c2) h1 p1 h2 p2 H Q kd ok j x u wx) (fun i wx wy => if i = 12 then True else Below wx.heap.size wx wy) (fun _ wx => Below w.heap.size w wx) (by kernel_rfl) (by kernel_rfl) rfl ⟨rfl, rfl, rfl, Nat.le_refl _, fun _ _ => rfl⟩ ?_ ?_ ?_ ?_
    · intro i k hi hk hal x u wa wb hR hV
      have hk' : k < 14 := hk
      have hi' : i < 14 := hi
      by_cases ii : i = 12
      · subst ii
        rcases k with _ | _ | _ | _ | _ | _ | _ | _ | _ | _ | _ | _ | _ | _ | k
        all_goals first | exact hV | (exfalso; revert hal; decide) | (exfalso; omega)
      · have hbb : Below wa.heap.size wa wb := by simpa [ii] using hR
        rcases k with _ | _ | _ | _ | _ | _ | _ | _ | _ | _ | _ | _ | _ | _ | k
        all_goals first
          | exact hV
          | (exfalso; omega)
          | (obtain ⟨g, x0, x1, x2, h1, h2, h3⟩ := hV; exact ⟨g, x0, x1, x2, h1, h2, heap_keep h3 hbb⟩)
          | (obtain ⟨g, h1, h2, h3⟩ := hV; exact ⟨g, h1, h2, heap_keep h3 hbb⟩)
    · intro k hk x u u' wx h hV
      have hk' : k < 14 := hk
      rcases k with _ | _ | _ | _ | _ | _ | _ | _ | _ | _ | _ | _ | _ | _ | k
      all_goals first | exact hV | (exfalso; omega) | skip
      obtain ⟨g, h1, h2⟩ := hV
      exact ⟨g, (h 11 (by decide)).symm.trans h1, h2⟩
    · simp (maxSteps := 4000000) only [eachOp, fillF, List.setIfInBounds_toArray, List.set_cons_succ, List.set_cons_zero]
      refine ⟨?_, ?_, ?_, ?_, ?_, ?_, ?_, ?_, ?_, ?_, ?_, ?_, ?_, ?_, trivial⟩ <;> intro u f wx hC hd <;> (try simp [allV, useOf, Region.binds] at hd)
      · have hBz := hC.size
        go_wp2
        exact ⟨_, rfl, rfl, Below.refl _ _, hC⟩
      · have hBz := hC.size
        go_wp2
        exact ⟨_, rfl, rfl, Below.refl _ _, hC⟩
      · rw [show u 1 = _ from (by first | exact hd | exact hd.1 | exact hd.2 | exact hd.2.1 | exact hd.2.2 | exact hd.2.2.1 | exact hd.2.2.2 | exact hd.2.2.2.1 | exact hd.2.2.2.2)]
        have hBz := hC.size
        go_wp2
        exact ⟨_, rfl, rfl, Below.refl _ _, hC⟩
      · rw [show u 2 = _ from (by first | exact hd | exact hd.1 | exact hd.2 | exact hd.2.1 | exact hd.2.2 | exact hd.2.2.1 | exact hd.2.2.2 | exact hd.2.2.2.1 | exact hd.2.2.2.2)]
        have hBz := hC.size
        have e0 := (hC.cell (p := ⟨ga, 0, none⟩) hga).trans a0
        have e1 := (hC.cell (p := ⟨ga, 1, none⟩) hga).trans a1
        have e2 := (hC.cell (p := ⟨ga, 2, none⟩) hga).trans a2
        go_wp2
        exact ⟨_, rfl, rfl, Below.refl _ _, hC⟩
      · have hBz := hC.size
        go_wp2
        exact ⟨_, rfl, rfl, Below.refl _ _, hC⟩
      · rw [show u 4 = _ from (by first | exact hd | exact hd.1 | exact hd.2 | exact hd.2.1 | exact hd.2.2 | exact hd.2.2.1 | exact hd.2.2.2 | exact hd.2.2.2.1 | exact hd.2.2.2.2)]
        have hBz := hC.size
        go_wp2
        exact ⟨_, rfl, rfl, Below.refl _ _, hC⟩
      · rw [show u 5 = _ from (by first | exact hd | exact hd.1 | exact hd.2 | exact hd.2.1 | exact hd.2.2 | exact hd.2.2.1 | exact hd.2.2.2 | exact hd.2.2.2.1 | exact hd.2.2.2.2)]
        have hBz := hC.size
        have e0 := (hC.cell (p := ⟨gb, 0, none⟩) hgb).trans c0
        have e1 := (hC.cell (p := ⟨gb, 1, none⟩) hgb).trans c1''
        have e2 := (hC.cell (p := ⟨gb, 2, none⟩) hgb).trans c2''
        go_wp2
        exact ⟨_, rfl, rfl, Below.refl _ _, hC⟩
      · rw [show u 0 = _ from (by first | exact hd | exact hd.1 | exact hd.2 | exact hd.2.1 | exact hd.2.2 | exact hd.2.2.1 | exact hd.2.2.2 | exact hd.2.2.2.1 | exact hd.2.2.2.2), show u 3 = _ from (by first | exact hd | exact hd.1 | exact hd.2 | exact hd.2.1 | exact hd.2.2 | exact hd.2.2.1 | exact hd.2.2.2 | exact hd.2.2.2.1 | exact hd.2.2.2.2), show u 6 = _ from (by first | exact hd | exact hd.1 | exact hd.2 | exact hd.2.1 | exact hd.2.2 | exact hd.2.2.1 | exact hd.2.2.2 | exact hd.2.2.2.1 | exact hd.2.2.2.2)]
        have hBz := hC.size
        go_wp2_with fail
        have hop := onePipe_any s 0 h1 p1 0 h2 p2 wx hg1 hg2
        rw [HK.out] at hop
        with_reducible refine hop.mono ?_
        clear hop
        rintro e wy ⟨rfl, hby⟩
        rw [HOQ.out.1, HOQ.out.2.1, HOQ.out.2.2]
        go_wp2
        exact ⟨_, rfl, rfl, hby, hC.trans (hby.mono hBz)⟩
      · rw [show u 7 = _ from (by first | exact hd | exact hd.1 | exact hd.2 | exact hd.2.1 | exact hd.2.2 | exact hd.2.2.1 | exact hd.2.2.2 | exact hd.2.2.2.1 | exact hd.2.2.2.2)]
        have hBz := hC.size
        go_wp2
        exact ⟨_, rfl, rfl, Below.refl _ _, hC⟩
      · rw [show u 8 = _ from (by first | exact hd | exact hd.1 | exact hd.2 | exact hd.2.1 | exact hd.2.2 | exact hd.2.2.1 | exact hd.2.2.2 | exact hd.2.2.2.1 | exact hd.2.2.2.2)]
        have hBz := hC.size
        go_wp2
        exact ⟨_, rfl, rfl, Below.refl _ _, hC⟩
      · rw [show u 8 = _ from (by first | exact hd | exact hd.1 | exact hd.2 | exact hd.2.1 | exact hd.2.2 | exact hd.2.2.1 | exact hd.2.2.2 | exact hd.2.2.2.1 | exact hd.2.2.2.2)]
        have hBz := hC.size
        go_wp2
        exact ⟨_, rfl, rfl, Below.refl _ _, hC⟩
      · have hBz := hC.size
        go_wp2
        exact ⟨_, rfl, ⟨_, _, _, _, rfl, hBz, heap_alloc_new _ _⟩, (Below.refl _ _).alloc (Nat.le_refl _) _, hC.alloc hBz _⟩
      · rw [show u 9 = _ from (by first | exact hd | exact hd.1 | exact hd.2 | exact hd.2.1 | exact hd.2.2 | exact hd.2.2.1 | exact hd.2.2.2 | exact hd.2.2.2.1 | exact hd.2.2.2.2)]
        have hBz := hC.size
        obtain ⟨g, x0, x1, x2, h11, hBg, hh⟩ : ∃ g x0 x1 x2, u 11 = .pointer (some ⟨g, 0, none⟩) ∧ w.heap.size ≤ g ∧ wx.heap[g]? = some (.cells #[x0, x1, x2] 33 (0, 0)) := (by first | exact hd.1 | exact hd.2 | exact hd.2.1)
        rw [h11]
        have k0 := heap_cell (j := 0) hh rfl
        have k1 := heap_cell (j := 1) hh rfl
        have k2 := heap_cell (j := 2) hh rfl
        have z0 := heap_frozen (j := 0) hh
        have z1 := heap_frozen (j := 1) hh
        have z2 := heap_frozen (j := 2) hh
        have hgl := heap_lt hh
        have hfin := heap_set (j := 2) (.int .i64 Q) (heap_set (j := 1) (.int .i64 H) (heap_set (j := 0) (.int .i64 0) hh))
        go_wp2
        exact ⟨undef, rfl, ⟨g, h11, hBg, by simpa using hfin⟩, (if_pos rfl ▸ trivial : (if (12 : Nat) = 12 then True else _)), ((hC.setCell (p := ⟨g, 0, none⟩) hBg _).setCell (p := ⟨g, 1, none⟩) hBg _).setCell (p := ⟨g, 2, none⟩) hBg _⟩
      · rw [show u 10 = _ from (by first | exact hd | exact hd.1 | exact hd.2 | exact hd.2.1 | exact hd.2.2 | exact hd.2.2.1 | exact hd.2.2.2 | exact hd.2.2.2.1 | exact hd.2.2.2.2)]
        have hBz := hC.size
        go_wp2
        exact ⟨_, rfl, rfl, Below.refl _ _, hC⟩
    · intro u f wx hC hfin
      simp only [fillEnd, fillF, Act.put, List.setIfInBounds_toArray, List.set_cons_succ, List.set_cons_zero]
      obtain ⟨g, h11, hBg, hh⟩ : ∃ g, u 11 = .pointer (some ⟨g, 0, none⟩) ∧ w.heap.size ≤ g ∧ wx.heap[g]? = some (.cells #[.int .i64 0, .int .i64 H, .int .i64 Q] 33 (0, 0)) := hfin 12 (by decide) (by decide)
      have h13 : u 13 = .bool ok := hfin 13 (by decide) (by decide)
      rw [h11, h13]
      clear hfin
      have k0 := heap_cell (j := 0) hh rfl
      have k1 := heap_cell (j := 1) hh rfl
      have k2 := heap_cell (j := 2) hh rfl
      have hgl := heap_lt hh
      clear hh
      cases ok with
      | true =>
        have hfin : Marks (wx.alloc (.cells #[.int .i64 0, .int .i64 H, .int .i64 Q] 33)) w.heap.size (.slice (some ⟨wx.heap.size, 0, none⟩) 1 1) [⟨0, H, Q⟩] := ⟨World.ownsRow_lit (e := 33) (base := w.heap.size) (size := 3) wx #[.int .i64 0, .int .i64 H, .int .i64 Q] 1 hC.size (by simp [maxLen]) rfl, by simp [small]⟩
        have hr : mergeT s (.pipe h1 p1) (.pipe h2 p2) = .pipe H Q := by simp only [mergeT]; rw [if_pos HOQ.out.2.2, HOQ.out.1, HOQ.out.2.1]
        have HR := Lib.hid hr
        clear hr
        go_wp2_with fail
        go_ret
        exact ⟨_, rfl, by rw [HR.out]; exact hfin, hC.alloc hC.size _⟩
      | false =>
        have hr : mergeT s (.pipe h1 p1) (.pipe h2 p2) = .two s (.pipe h1 p1) (.pipe h2 p2) := by simp only [mergeT]; rw [if_neg (by rw [HOQ.out.2.2]; simp)]
        have HR := Lib.hid hr
        clear hr k0 k1 k2
        go_wp2_with fail
        refine (together_any kd _ _ _ _ b b' _ (HM1.out.keep hC) (HM2.out.keep hC) (by simp)).mono ?_
        rintro e wy ⟨r, rfl, hr, hby⟩
        have hBz := hC.size
        have hfin : Marks wy w.heap.size r (mergeT s (.pipe h1 p1) (.pipe h2 p2)).marks := by rw [HR.out, HKD.out]; exact hr.mono hBz
        have hbF : Below w.heap.size w wy := hC.trans (hby.mono hBz)
        clear hr hby
        go_wp2_with fail
        go_ret
        exact ⟨_, rfl, hfin, hbF⟩
  · obtain ⟨A1, c1, rfl, hk1, hk2, -, -⟩ := hu.form
    obtain ⟨A2, c2, rfl, hk3, hk4, -, -⟩ := hv.form
    unfold maxLen at hk2 hk4
    have HM := Lib.hid (merge_two s hone)
    obtain ⟨kd, hkd⟩ : ∃ x, kindI s = x := ⟨_, rfl⟩
    have HKD := Lib.hid (show (Tm.two s x y).marks = x.marks ++ y.marks ++ [⟨kd, 0, 0⟩] by rw [← hkd]; simp [Tm.marks])
    rw [hkd]
    obtain ⟨lx, hlx⟩ : ∃ l, x.marks.length = l := ⟨_, rfl⟩
    obtain ⟨ly, hly⟩ : ∃ l, y.marks.length = l := ⟨_, rfl⟩
    have hl2 : x.marks.length + y.marks.length ≤ 100 := by omega
    rw [hlx, hly] at hone
    rw [hlx] at hu hk1 ⊢
    rw [hly] at hv hk3 ⊢
    have hstep : Calls Try.prog 77 #[.int .i64 kd, .slice A1 lx c1, .slice A2 ly c2] w fun e w' => ∃ r, e = .returned r ∧ Marks w' w.heap.size r (mergeT s x y).marks ∧ Below w.heap.size w w' := by
      rw [HM.out, HKD.out]
      exact together_any kd _ _ _ _ b b' _ hu hv hl2
    have HST := Lib.hid hstep
    clear hkd hlx hly hl hl2 hstep
    by_cases h1 : lx = 1
    · have h2 : ¬ ly = 1 := fun h => hone ⟨h1, h⟩
      have e1 : ((lx : Int) == 1) = true := by rw [h1]; rfl
      have e2 : ((ly : Int) == 1) = false := by rw [beq_eq_false_iff_ne]; omega
      clear hone h1 h2
      go_enter Try.func68, Try.ntmps68
      go_wp2_with fail
      refine HST.out.mono ?_
      rintro e wy ⟨r, rfl, hr, hby⟩
      go_wp2_with fail
      go_ret
      exact ⟨_, rfl, hr, hby⟩
    · have e1 : ((lx : Int) == 1) = false := by rw [beq_eq_false_iff_ne]; omega
      clear hone h1
      go_enter Try.func68, Try.ntmps68
      go_wp2_with fail
      refine HST.out.mono ?_
      rintro e wy ⟨r, rfl, hr, hby⟩
      go_wp2_with fail
      go_ret
      exact ⟨_, rfl, hr, hby⟩

end Go.Proofs.Ytaohjhehlkeckaa

/- Contracts of the functions of chapter 9 in the program: the stack of rows of marks, MergedTerm. -/
namespace Go.Proofs.Ytaohjhehlkeckaa
open Go.RowKit

def mg (U : Tm) : List Mk := U.merged.marks

set_option maxHeartbeats 400000 in
set_option maxRecDepth 20000 in
theorem rPipe_any (k h p : Int) (w : World) :
    Calls Try.prog 76 #[.agg #[.int .i64 k, .int .i64 h, .int .i64 p]] w fun e w' => ∃ r, e = .returned r ∧ Marks w' w.heap.size r [⟨k, h, p⟩] ∧ Below w.heap.size w w' := by
  go_enter Try.func76, Try.ntmps76
  go_wp2
  go_ret
  have hown := World.ownsRow_lit (e := 33) (base := w.heap.size) (size := 3) (w.alloc (.cells #[.int .i64 k, .int .i64 h, .int .i64 p] 33)) #[.int .i64 k, .int .i64 h, .int .i64 p] 1 (by simp) (by simp [maxLen]) rfl
  rw [World.size_alloc] at hown
  exact ⟨_, rfl, ⟨hown, by simp [small]⟩, by (repeat (first | (with_reducible assumption) | (with_reducible exact Below.refl _ _) | ((with_reducible refine Below.alloc ?_ ?hsz _); (case hsz => (first | omega | (simp; done) | (simp; omega) | (simp at *; omega)))) | ((with_reducible refine Below.setCell ?_ ?hsz _); (case hsz => (first | omega | (simp; done) | (simp; omega) | (simp at *; omega)))) | (with_reducible refine Below.drew ?_) | (with_reducible refine below_drewN ?_ _) | ((with_reducible refine Below.trans ?_ (Below.mono (by with_reducible assumption) ?hsz)); (case hsz => (first | omega | (simp; done) | (simp; omega) | (simp at *; omega))))))⟩

theorem StkM.top {w : World} {b g c M : Nat} {s : Value} {Ls : List (List Mk)} {L : List Mk} (h : StkM w b (.slice (some ⟨g, 0, none⟩) (M + 2) c) (M + 2) Ls) (hM : Ls.length = M + 2) (hs : Marks w b s L) :
    StkM (w.setCell ⟨g, M, none⟩ s) b (.slice (some ⟨g, 0, none⟩) (M + 1) c) (M + 1) (Ls.take M ++ [L]) := by
  obtain ⟨vs, h1, h2, h3, h4⟩ := h
  have hst := h3.stored M s
  have hf := own_fst hst.1 (m := M + 1) (by omega)
  have e : (vs.set M s).take ((M + 1) * 1) = vs.take M ++ [s] := by
    have hv : M < vs.length := by omega
    rw [Nat.mul_one, List.take_succ_eq_append_getElem (by simp; exact hv)]
    simp [List.take_set]
    exact List.set_eq_of_length_le (by simp; omega)
  rw [e] at hf
  have hl : (vs.take M ++ [s]).length = M + 1 := by simp; omega
  have hl2 : (Ls.take M ++ [L]).length = M + 1 := by simp; omega
  refine ⟨_, by rw [hl, hl2], hl2, hf, fun k hk hk' => ?_⟩
  by_cases hkM : k < M
  · have e1 : (vs.take M ++ [s])[k] = vs[k]'(by omega) := by rw [List.getElem_append_left (by simp; omega)]; simp
    have e2 : (Ls.take M ++ [L])[k] = Ls[k]'(by omega) := by rw [List.getElem_append_left (by simp; omega)]; simp
    rw [e1, e2]
    exact (h4 k (by omega) (by omega)).oth h3 hst.2
  · have hkM : k = M := by omega
    subst hkM
    have e1 : (vs.take k ++ [s])[k] = s := by rw [List.getElem_append_right (by simp; omega)]; simp
    have e2 : (Ls.take k ++ [L])[k] = L := by rw [List.getElem_append_right (by simp; omega)]; simp
    rw [e1, e2]
    exact hs.oth h3 hst.2

/-- what the operations yield -/
def bqV (W : World) (B g M c1 mb : Nat) (s : Bool) (v1 v2 : Value) (L3 : List Mk) (fv : Value) : Nat → Value → World → Prop
  | 0, x, _ => x = .slice (some ⟨g, 0, none⟩) (M + 2) c1
  | 1, x, _ => x = .int .i64 ((M : Int) + 2 - 1)
  | 2, x, _ => x = .int .i64 (M : Int)
  | 3, x, _ => x = fv
  | 4, x, _ => x = .pointer (some ⟨mb, 0, none⟩)
  | 5, x, _ => x = .int .i64 (kindI s)
  | 6, x, _ => x = .slice (some ⟨g, 0, none⟩) (M + 2) c1
  | 7, x, _ => x = .int .i64 ((M : Int) + 2 - 1)
  | 8, x, _ => x = .int .i64 (M : Int)
  | 9, x, _ => x = .pointer (some ⟨g, M, none⟩)
  | 10, x, _ => x = v1
  | 11, x, _ => x = .slice (some ⟨g, 0, none⟩) (M + 2) c1
  | 12, x, _ => x = .int .i64 ((M : Int) + 2 - 1)
  | 13, x, _ => x = .pointer (some ⟨g, M + 1, none⟩)
  | 14, x, _ => x = v2
  | 15, x, w => ∃ s, x = s ∧ Marks w B s L3
  | 16, x, _ => x = .pointer (some ⟨g, M, none⟩)
  | 17, x, w => x = x ∧ ∃ w' s, Below W.heap.size W w' ∧ Marks w' B s L3 ∧ w = w'.setCell ⟨g, M, none⟩ s
  | _, _, _ => True

set_option maxHeartbeats 8000000 in
set_option maxRecDepth 20000 in
theorem builtMerged_any (T : Tm) (hgd : T.good) (h7 : T.pipes ≤ 7) (v : Value) (w : World) (h : ArgMarks w v T.marks) :
    Calls Try.prog 75 #[v, .func (Fn.func 76) #[] #[], .func (Fn.func 68) #[] #[]] w fun e w' => ∃ r, e = .returned r ∧ Marks w' w.heap.size r (mg T) ∧ Below w.heap.size w w' := by
  obtain ⟨A, c, rfl, hc1, hc2, hcell⟩ := h
  unfold maxLen at hc2
  have h13 := T.len13 h7
  obtain ⟨i0, hi0, hz0, hz1, hz2⟩ := info_parts marks_info2
  have HE := Lib.hid (stack_end T hgd)
  have HA := Lib.hid (fun k hk => stack_all T hgd k hk)
  have HN := Lib.hid (fun k hk => stack_next T hgd k hk)
  obtain ⟨L, hL⟩ : ∃ L, T.marks.length = L := ⟨_, rfl⟩
  rw [hL] at hc1 h13 ⊢
  have HL := Lib.hid hL
  clear hL
  go_enter Try.func75, Try.ntmps75
  go_wp2
  go_loopw [13, 7] (fun i t wr => ∃ (k n c1 : Nat) (A1 : Option Addr), k ≤ L ∧ i = .int .i64 k ∧ t = .slice A1 n c1 ∧ (stackT T k).length = n ∧
      StkM wr w.heap.size (.slice A1 n c1) n ((stackT T k).reverse.map mg) ∧ Below w.heap.size w wr) (fun i _ _ => L - (intOf i).toNat)
  case atStart => exact ⟨0, 0, 0, none, by omega, rfl, rfl, rfl, ⟨[], rfl, rfl, World.ownsRow_nil _ _ _ 1, fun k hk => by simp [stackT, runT] at hk⟩, by (repeat (first | (with_reducible assumption) | (with_reducible exact Below.refl _ _) | ((with_reducible refine Below.alloc ?_ ?hsz _); (case hsz => (first | omega | (simp; done) | (simp; omega) | (simp at *; omega)))) | ((with_reducible refine Below.setCell ?_ ?hsz _); (case hsz => (first | omega | (simp; done) | (simp; omega) | (simp at *; omega)))) | (with_reducible refine Below.drew ?_) | (with_reducible refine below_drewN ?_ _) | ((with_reducible refine Below.trans ?_ (Below.mono (by with_reducible assumption) ?hsz)); (case hsz => (first | omega | (simp; done) | (simp; omega) | (simp at *; omega))))))⟩
  case round =>
    obtain ⟨k, n, c1, A1, hk, rfl, rfl, hn, hstk, hb⟩ := hrel
    obtain ⟨hcr, hfr, hzr⟩ := bcell hb
    have hkT : k ≤ T.marks.length := by have := HL.out; omega
    obtain ⟨hga, hgm, hgn⟩ := HA.out k hkT
    have hnk : n ≤ 13 := by omega
    by_cases hlt : k < L
    · have hltT : k < T.marks.length := by have := HL.out; omega
      obtain ⟨g, o, rfl, hg2, d0, d1, d2⟩ := hcell k hltT
      have hgr : g < wr.heap.size := by omega
      rcases HN.out k hltT with ⟨h, p, hm, hh, hp, hs⟩ | ⟨s, a, b, r, hm, hst, hs⟩
      · rw [hm] at d0 d1 d2
        have HS := Lib.hid hs
        have HM := Lib.hid hn
        clear hm hs hn
        go_wp2_with fail
        refine (rPipe_any 0 h p _).mono ?_
        rintro e w2 ⟨r, rfl, hr, hb2⟩
        obtain ⟨A9, c9, rfl, -, -, -, -⟩ := hr.form
        obtain ⟨n9, hn9⟩ : ∃ n9, ([(⟨0, h, p⟩ : Mk)]).length = n9 := ⟨_, rfl⟩
        rw [hn9] at hr ⊢
        clear hn9
        have hstk2 := hstk.keep (w' := w2) (by (repeat (first | (with_reducible assumption) | (with_reducible exact Below.refl _ _) | ((with_reducible refine Below.alloc ?_ ?hsz _); (case hsz => (first | omega | (simp; done) | (simp; omega) | (simp at *; omega)))) | ((with_reducible refine Below.setCell ?_ ?hsz _); (case hsz => (first | omega | (simp; done) | (simp; omega) | (simp at *; omega)))) | (with_reducible refine Below.drew ?_) | (with_reducible refine below_drewN ?_ _) | ((with_reducible refine Below.trans ?_ (Below.mono (by with_reducible assumption) ?hsz)); (case hsz => (first | omega | (simp; done) | (simp; omega) | (simp at *; omega)))))))
        have hz2' := hb2.size
        simp at hz2'
        have hbw2 : Below w.heap.size w w2 := by (repeat (first | (with_reducible assumption) | (with_reducible exact Below.refl _ _) | ((with_reducible refine Below.alloc ?_ ?hsz _); (case hsz => (first | omega | (simp; done) | (simp; omega) | (simp at *; omega)))) | ((with_reducible refine Below.setCell ?_ ?hsz _); (case hsz => (first | omega | (simp; done) | (simp; omega) | (simp at *; omega)))) | (with_reducible refine Below.drew ?_) | (with_reducible refine below_drewN ?_ _) | ((with_reducible refine Below.trans ?_ (Below.mono (by with_reducible assumption) ?hsz)); (case hsz => (first | omega | (simp; done) | (simp; omega) | (simp at *; omega))))))
        obtain ⟨vs, v1, v2, hown2, v4⟩ := hstk2
        have hrow : ∀ q, (Value.slice A1 n c1).ownBlock = some q → w.heap.size ≤ q := fun q hq => (hown2.lt q hq).1
        have HV := Lib.hid (And.intro v1 (And.intro v2 v4))
        have HR := Lib.hid (hr.mono (b' := w.heap.size) (by simp; omega))
        clear hstk hcr hfr hb hb2 v1 v2 v4 hr
        go_wp2_with (first
          | (at_builtin
             go_must (refine wpList_append_lies _ rfl _ _ 69 rfl w.heap.size 23 i0 _ 1 24 Try.underlying69 hi0 hz0 hz1 hz2 rfl (by omega) _ n _ rfl (hown2.alloc _) ⟨w2.heap.size, 0, none⟩ 1 1 [.slice A9 n9 c9] rfl rfl (World.news_of_block (cs := #[.slice A9 n9 c9]) (t := 23) (fr := (0, 0)) (heap_alloc_new _ _)) (by simp [Value.oneCell']) (by omega) (by unfold maxLen; omega) (by omega) (by simp; omega) _ rfl ?_)
             intro g2 k2 w7 hown7 hgr7 hat7 hlt7))
        have hb7 : Below w.heap.size w w7 := by
          refine Below.grown (w := w2.alloc (.cells #[.slice A9 n9 c9] 23)) (by (repeat (first | (with_reducible assumption) | (with_reducible exact Below.refl _ _) | ((with_reducible refine Below.alloc ?_ ?hsz _); (case hsz => (first | omega | (simp; done) | (simp; omega) | (simp at *; omega)))) | ((with_reducible refine Below.setCell ?_ ?hsz _); (case hsz => (first | omega | (simp; done) | (simp; omega) | (simp at *; omega)))) | (with_reducible refine Below.drew ?_) | (with_reducible refine below_drewN ?_ _) | ((with_reducible refine Below.trans ?_ (Below.mono (by with_reducible assumption) ?hsz)); (case hsz => (first | omega | (simp; done) | (simp; omega) | (simp at *; omega))))))) hgr7 (by (first | omega | (simp; done) | (simp; omega) | (simp at *; omega))) hrow
        have hb22 : Below w2.heap.size w2 (w2.alloc (.cells #[.slice A9 n9 c9] 23)) := by (repeat (first | (with_reducible assumption) | (with_reducible exact Below.refl _ _) | ((with_reducible refine Below.alloc ?_ ?hsz _); (case hsz => (first | omega | (simp; done) | (simp; omega) | (simp at *; omega)))) | ((with_reducible refine Below.setCell ?_ ?hsz _); (case hsz => (first | omega | (simp; done) | (simp; omega) | (simp at *; omega)))) | (with_reducible refine Below.drew ?_) | (with_reducible refine below_drewN ?_ _) | ((with_reducible refine Below.trans ?_ (Below.mono (by with_reducible assumption) ?hsz)); (case hsz => (first | omega | (simp; done) | (simp; omega) | (simp at *; omega))))))
        have hSn : StkM w7 w.heap.size (.slice (some ⟨g2, 0, none⟩) (n + 1) k2) (n + 1) ((stackT T k).reverse.map mg ++ [[(⟨0, h, p⟩ : Mk)]]) :=
          StkM.snoc _ HV.out.1 HV.out.2.1 (hown2.alloc _) (fun k hk hk' => (HV.out.2.2 k hk hk').keep hb22) (HR.out.keep hb22) hgr7 hown7
        have HO := Lib.hid hSn
        clear hown7 hgr7 hat7 hlt7 hSn hb22
        go_roundw
        case rel => exact ⟨k + 1, n + 1, k2, some ⟨g2, 0, none⟩, by omega, by go_num, rfl, by rw [HS.out]; simp; exact HM.out, by rw [HS.out]; simpa [mg, Tm.merged, Tm.marks] using HO.out, hb7⟩
        case measure => simp [intOf]; omega
      · rw [hm] at d0 d1 d2
        have hgA := hga a (by rw [hst]; simp)
        have hgB := hga b (by rw [hst]; simp)
        have ha7 := a.pipes_marks (hgm a (by rw [hst]; simp)) (by omega)
        have hb7' := b.pipes_marks (hgm b (by rw [hst]; simp)) (by omega)
        have HSM := Lib.hid (And.intro (a.merged_good hgA) (b.merged_good hgB))
        have hlab : (mg a).length + (mg b).length ≤ 90 := by
          have h1 := Tm.len13 a.merged (by have := (a.merged_good hgA).2; omega)
          have h2 := Tm.len13 b.merged (by have := (b.merged_good hgB).2; omega)
          show a.merged.marks.length + b.merged.marks.length ≤ 90
          omega
        have HLAB := Lib.hid hlab
        clear hlab
        obtain ⟨M, hM⟩ : ∃ M, r.length = M := ⟨_, rfl⟩
        have hnM : n = M + 2 := by rw [← hn, hst]; simp; omega
        subst hnM
        rw [hst] at hstk
        have hstk0 := hstk
        obtain ⟨vs, v1, v2, hown, v4⟩ := hstk
        have hvl : vs.length = M + 2 := by omega
        obtain ⟨gs, rfl, hgs1, hgs2, hcn, hcm, hc9⟩ := own_at hown (by omega)
        unfold maxLen at hcm
        obtain ⟨f0, f1⟩ := hc9 M vs[M] (by simp <;> omega)
        obtain ⟨f2, -⟩ := hc9 (M + 1) vs[M + 1] (by simp <;> omega)
        have hIa := v4 M (by omega) (by omega)
        have hIb := v4 (M + 1) (by omega) (by omega)
        have ea : ((b :: a :: r).reverse.map mg)[M]'(by simp; omega) = (mg a) := by subst hM; simp
        have eb : ((b :: a :: r).reverse.map mg)[M + 1]'(by simp; omega) = (mg b) := by subst hM; simp
        rw [ea] at hIa
        rw [eb] at hIb
        generalize vs[M] = va at *
        generalize vs[M + 1] = vb at *
        obtain ⟨Aa, ca, rfl, -, -, -, -⟩ := hIa.form
        obtain ⟨Ab, cb, rfl, -, -, -, -⟩ := hIb.form
        obtain ⟨la, hla⟩ : ∃ l, (mg a).length = l := ⟨_, rfl⟩
        obtain ⟨lb, hlb⟩ : ∃ l, (mg b).length = l := ⟨_, rfl⟩
        rw [hla] at hIa f0
        rw [hlb] at hIb f2
        have HS := Lib.hid hs
        have HM := Lib.hid hM
        have hk0 : (kindI s == 0) = false := by cases s <;> rfl
        clear hm hst hs hn hc9 hM v1 v2 v4 hvl ea eb hla hlb hown
        obtain ⟨W7, hW7⟩ : ∃ W, W = wr.alloc (.cells #[.int .i64 (kindI s), .int .i64 0, .int .i64 0] 33) := ⟨_, rfl⟩
        have hbr : Below wr.heap.size wr W7 := by rw [hW7]; (repeat (first | (with_reducible assumption) | (with_reducible exact Below.refl _ _) | ((with_reducible refine Below.alloc ?_ ?hsz _); (case hsz => (first | omega | (simp; done) | (simp; omega) | (simp at *; omega)))) | ((with_reducible refine Below.setCell ?_ ?hsz _); (case hsz => (first | omega | (simp; done) | (simp; omega) | (simp at *; omega)))) | (with_reducible refine Below.drew ?_) | (with_reducible refine below_drewN ?_ _) | ((with_reducible refine Below.trans ?_ (Below.mono (by with_reducible assumption) ?hsz)); (case hsz => (first | omega | (simp; done) | (simp; omega) | (simp at *; omega))))))
        have hmb : wr.heap.size < W7.heap.size := by rw [hW7]; simp
        have hm0 : W7.cell? ⟨wr.heap.size, 0, none⟩ = some (.int .i64 (kindI s)) := by rw [hW7]; go_simp
        have HST := Lib.hid (hstk0.keep hbr)
        replace hIa := hIa.keep hbr
        replace hIb := hIb.keep hbr
        have hb7 : Below w.heap.size w W7 := hb.trans (hbr.mono hb.size)
        have hgl : gs < W7.heap.size := by omega
        have ha0 := (hbr.cell (p := ⟨gs, M, none⟩) hgs2).trans f0
        have hfz := (hbr.frozen (p := ⟨gs, M, none⟩) hgs2).trans f1
        have hb0 := (hbr.cell (p := ⟨gs, M + 1, none⟩) hgs2).trans f2
        clear hbr hb f0 f1 f2 hstk0
        go_wp2_with fail
        rw [← hW7]
        clear hW7 hcr hfr
        refine wp_region_flowL 18 none [(0, 29), (1, 30), (2, 31), (3, 32), (4, 33), (5, 34), (6, 35), (7, 36), (8, 37), (9, 38), (10, 39), (11, 40), (12, 41), (13, 42), (14, 43), (15, 44), (16, 45)] (fun j x _ wx => bqV W7 W7.heap.size gs M c1 wr.heap.size s (.slice Aa la ca) (.slice Ab lb cb) (mg (Tm.two s a b)) (.func (Fn.func 68) #[] #[]) j x wx) (fun i wx wy => if i = 17 then True else Below wx.heap.size wx wy) (fun f wx => 1 ≤ f → Below W7.heap.size W7 wx) (by kernel_rfl) (by kernel_rfl) rfl (fun _ => ⟨rfl, rfl, rfl, Nat.le_refl _, fun _ _ => rfl⟩) ?_ ?_ ?_ ?_
        · intro i k hi hk hal x u wa wb hR hV
          have hk' : k < 18 := hk
          have hi' : i < 18 := hi
          by_cases n17 : k = 17
          · subst n17
            exfalso
            rcases i with _ | _ | _ | _ | _ | _ | _ | _ | _ | _ | _ | _ | _ | _ | _ | _ | _ | _ | i
            all_goals (first | omega | (revert hal; decide))
          · by_cases i17 : i = 17
            · subst i17
              rcases k with _ | _ | _ | _ | _ | _ | _ | _ | _ | _ | _ | _ | _ | _ | _ | _ | _ | _ | k
              all_goals first | exact hV | (exfalso; revert hal; decide) | (exfalso; omega)
            · have hbb : Below wa.heap.size wa wb := by simpa [i17] using hR
              rcases k with _ | _ | _ | _ | _ | _ | _ | _ | _ | _ | _ | _ | _ | _ | _ | _ | _ | _ | k
              all_goals first
                | exact hV
                | (exfalso; omega)
                | (obtain ⟨s, h1, h2⟩ := hV; exact ⟨s, h1, h2.keep hbb⟩)
        · exact fun _ _ _ _ _ _ _ h => h
        · simp (maxSteps := 4000000) only [eachOp, fillF, List.setIfInBounds_toArray, List.set_cons_succ, List.set_cons_zero]
          refine ⟨?_, ?_, ?_, ?_, ?_, ?_, ?_, ?_, ?_, ?_, ?_, ?_, ?_, ?_, ?_, ?_, ?_, ?_, trivial⟩ <;> intro u f wx hC hd hf <;> (try simp [allV, useOf, Region.binds] at hd)
          · have hf1 : 1 ≤ f := Nat.le_trans (by decide) hf.1
            have hB := hC (by omega)
            clear hf
            have hBz := hB.size
            go_wp2
            first | exact ⟨_, rfl, rfl, Below.refl _ _, fun _ => hB⟩ | exact ⟨_, rfl, rfl, Below.refl _ _, hB⟩
          · have hf1 : 1 ≤ f := Nat.le_trans (by decide) hf.1
            have hB := hC (by omega)
            clear hf
            have hBz := hB.size
            go_wp2
            first | exact ⟨_, rfl, rfl, Below.refl _ _, fun _ => hB⟩ | exact ⟨_, rfl, rfl, Below.refl _ _, hB⟩
          · rw [show u 1 = _ from (by first | exact hd | exact hd.1 | exact hd.2 | exact hd.2.1 | exact hd.2.2 | exact hd.2.2.1 | exact hd.2.2.2 | exact hd.2.2.2.1 | exact hd.2.2.2.2)]
            have hf1 : 1 ≤ f := Nat.le_trans (by decide) hf.1
            have hB := hC (by omega)
            clear hf
            have hBz := hB.size
            have hw : IntKind.i64.wrap ((M : Int) + 2 - 1 - 1) = (M : Int) := by rw [IntWalk.i64_in _ (by omega)]; omega
            go_wp2
            first | exact ⟨_, rfl, rfl, Below.refl _ _, fun _ => hB⟩ | exact ⟨_, rfl, rfl, Below.refl _ _, hB⟩
          · have hf1 : 1 ≤ f := Nat.le_trans (by decide) hf.1
            have hB := hC (by omega)
            clear hf
            have hBz := hB.size
            go_wp2
            first | exact ⟨_, rfl, rfl, Below.refl _ _, fun _ => hB⟩ | exact ⟨_, rfl, rfl, Below.refl _ _, hB⟩
          · have hf1 : 1 ≤ f := Nat.le_trans (by decide) hf.1
            have hB := hC (by omega)
            clear hf
            have hBz := hB.size
            go_wp2
            first | exact ⟨_, rfl, rfl, Below.refl _ _, fun _ => hB⟩ | exact ⟨_, rfl, rfl, Below.refl _ _, hB⟩
          · rw [show u 4 = _ from (by first | exact hd | exact hd.1 | exact hd.2 | exact hd.2.1 | exact hd.2.2 | exact hd.2.2.1 | exact hd.2.2.2 | exact hd.2.2.2.1 | exact hd.2.2.2.2)]
            have hf1 : 1 ≤ f := Nat.le_trans (by decide) hf.1
            have hB := hC (by omega)
            clear hf
            have hBz := hB.size
            have e0 := (hB.cell (p := ⟨wr.heap.size, 0, none⟩) hmb).trans hm0
            go_wp2
            first | exact ⟨_, rfl, rfl, Below.refl _ _, fun _ => hB⟩ | exact ⟨_, rfl, rfl, Below.refl _ _, hB⟩
          · have hf1 : 1 ≤ f := Nat.le_trans (by decide) hf.1
            have hB := hC (by omega)
            clear hf
            have hBz := hB.size
            go_wp2
            first | exact ⟨_, rfl, rfl, Below.refl _ _, fun _ => hB⟩ | exact ⟨_, rfl, rfl, Below.refl _ _, hB⟩
          · have hf1 : 1 ≤ f := Nat.le_trans (by decide) hf.1
            have hB := hC (by omega)
            clear hf
            have hBz := hB.size
            go_wp2
            first | exact ⟨_, rfl, rfl, Below.refl _ _, fun _ => hB⟩ | exact ⟨_, rfl, rfl, Below.refl _ _, hB⟩
          · rw [show u 7 = _ from (by first | exact hd | exact hd.1 | exact hd.2 | exact hd.2.1 | exact hd.2.2 | exact hd.2.2.1 | exact hd.2.2.2 | exact hd.2.2.2.1 | exact hd.2.2.2.2)]
            have hf1 : 1 ≤ f := Nat.le_trans (by decide) hf.1
            have hB := hC (by omega)
            clear hf
            have hBz := hB.size
            have hw : IntKind.i64.wrap ((M : Int) + 2 - 1 - 1) = (M : Int) := by rw [IntWalk.i64_in _ (by omega)]; omega
            go_wp2
            first | exact ⟨_, rfl, rfl, Below.refl _ _, fun _ => hB⟩ | exact ⟨_, rfl, rfl, Below.refl _ _, hB⟩
          · rw [show u 6 = _ from (by first | exact hd | exact hd.1 | exact hd.2 | exact hd.2.1 | exact hd.2.2 | exact hd.2.2.1 | exact hd.2.2.2 | exact hd.2.2.2.1 | exact hd.2.2.2.2), show u 8 = _ from (by first | exact hd | exact hd.1 | exact hd.2 | exact hd.2.1 | exact hd.2.2 | exact hd.2.2.1 | exact hd.2.2.2 | exact hd.2.2.2.1 | exact hd.2.2.2.2)]
            have hf1 : 1 ≤ f := Nat.le_trans (by decide) hf.1
            have hB := hC (by omega)
            clear hf
            have hBz := hB.size
            go_wp2
            first | exact ⟨_, rfl, rfl, Below.refl _ _, fun _ => hB⟩ | exact ⟨_, rfl, rfl, Below.refl _ _, hB⟩
          · rw [show u 9 = _ from (by first | exact hd | exact hd.1 | exact hd.2 | exact hd.2.1 | exact hd.2.2 | exact hd.2.2.1 | exact hd.2.2.2 | exact hd.2.2.2.1 | exact hd.2.2.2.2)]
            have hf1 : 1 ≤ f := Nat.le_trans (by decide) hf.1
            have hB := hC (by omega)
            clear hf
            have hBz := hB.size
            have e0 := (hB.cell (p := ⟨gs, M, none⟩) hgl).trans ha0
            go_wp2
            first | exact ⟨_, rfl, rfl, Below.refl _ _, fun _ => hB⟩ | exact ⟨_, rfl, rfl, Below.refl _ _, hB⟩
          · have hf1 : 1 ≤ f := Nat.le_trans (by decide) hf.1
            have hB := hC (by omega)
            clear hf
            have hBz := hB.size
            go_wp2
            first | exact ⟨_, rfl, rfl, Below.refl _ _, fun _ => hB⟩ | exact ⟨_, rfl, rfl, Below.refl _ _, hB⟩
          · have hf1 : 1 ≤ f := Nat.le_trans (by decide) hf.1
            have hB := hC (by omega)
            clear hf
            have hBz := hB.size
            go_wp2
            first | exact ⟨_, rfl, rfl, Below.refl _ _, fun _ => hB⟩ | exact ⟨_, rfl, rfl, Below.refl _ _, hB⟩
          · rw [show u 11 = _ from (by first | exact hd | exact hd.1 | exact hd.2 | exact hd.2.1 | exact hd.2.2 | exact hd.2.2.1 | exact hd.2.2.2 | exact hd.2.2.2.1 | exact hd.2.2.2.2), show u 12 = _ from (by first | exact hd | exact hd.1 | exact hd.2 | exact hd.2.1 | exact hd.2.2 | exact hd.2.2.1 | exact hd.2.2.2 | exact hd.2.2.2.1 | exact hd.2.2.2.2)]
            have hf1 : 1 ≤ f := Nat.le_trans (by decide) hf.1
            have hB := hC (by omega)
            clear hf
            have hBz := hB.size
            go_wp2
            first | exact ⟨_, rfl, rfl, Below.refl _ _, fun _ => hB⟩ | exact ⟨_, rfl, rfl, Below.refl _ _, hB⟩
          · rw [show u 13 = _ from (by first | exact hd | exact hd.1 | exact hd.2 | exact hd.2.1 | exact hd.2.2 | exact hd.2.2.1 | exact hd.2.2.2 | exact hd.2.2.2.1 | exact hd.2.2.2.2)]
            have hf1 : 1 ≤ f := Nat.le_trans (by decide) hf.1
            have hB := hC (by omega)
            clear hf
            have hBz := hB.size
            have e0 := (hB.cell (p := ⟨gs, M + 1, none⟩) hgl).trans hb0
            go_wp2
            first | exact ⟨_, rfl, rfl, Below.refl _ _, fun _ => hB⟩ | exact ⟨_, rfl, rfl, Below.refl _ _, hB⟩
          · rw [show u 3 = _ from (by first | exact hd | exact hd.1 | exact hd.2 | exact hd.2.1 | exact hd.2.2 | exact hd.2.2.1 | exact hd.2.2.2 | exact hd.2.2.2.1 | exact hd.2.2.2.2), show u 5 = _ from (by first | exact hd | exact hd.1 | exact hd.2 | exact hd.2.1 | exact hd.2.2 | exact hd.2.2.1 | exact hd.2.2.2 | exact hd.2.2.2.1 | exact hd.2.2.2.2), show u 10 = _ from (by first | exact hd | exact hd.1 | exact hd.2 | exact hd.2.1 | exact hd.2.2 | exact hd.2.2.1 | exact hd.2.2.2 | exact hd.2.2.2.1 | exact hd.2.2.2.2), show u 14 = _ from (by first | exact hd | exact hd.1 | exact hd.2 | exact hd.2.1 | exact hd.2.2 | exact hd.2.2.1 | exact hd.2.2.2 | exact hd.2.2.2.1 | exact hd.2.2.2.2)]
            have hf1 : 1 ≤ f := Nat.le_trans (by decide) hf.1
            have hB := hC (by omega)
            clear hf
            have hBz := hB.size
            go_wp2_with fail
            refine (madeOne_any s a.merged b.merged _ _ _ _ _ (hIa.keep hB) (hIb.keep hB) HSM.out.1.1 HSM.out.2.1 HLAB.out).mono ?_
            rintro e wy ⟨r, rfl, hr, hby⟩
            go_wp2
            first | exact ⟨_, rfl, ⟨_, rfl, hr.mono hBz⟩, hby, fun _ => hB.trans (hby.mono hBz)⟩ | exact ⟨_, rfl, ⟨_, rfl, hr.mono hBz⟩, hby, hB.trans (hby.mono hBz)⟩
          · rw [show u 0 = _ from (by first | exact hd | exact hd.1 | exact hd.2 | exact hd.2.1 | exact hd.2.2 | exact hd.2.2.1 | exact hd.2.2.2 | exact hd.2.2.2.1 | exact hd.2.2.2.2), show u 2 = _ from (by first | exact hd | exact hd.1 | exact hd.2 | exact hd.2.1 | exact hd.2.2 | exact hd.2.2.1 | exact hd.2.2.2 | exact hd.2.2.2.1 | exact hd.2.2.2.2)]
            have hf1 : 1 ≤ f := Nat.le_trans (by decide) hf.1
            have hB := hC (by omega)
            clear hf
            have hBz := hB.size
            go_wp2
            first | exact ⟨_, rfl, rfl, Below.refl _ _, fun _ => hB⟩ | exact ⟨_, rfl, rfl, Below.refl _ _, hB⟩
          · rw [show u 16 = _ from (by first | exact hd | exact hd.1 | exact hd.2 | exact hd.2.1 | exact hd.2.2 | exact hd.2.2.1 | exact hd.2.2.2 | exact hd.2.2.2.1 | exact hd.2.2.2.2)]
            have hf2 := hf.2
            have hB := hC (by omega)
            clear hf
            have hBz := hB.size
            have e0 := (hB.cell (p := ⟨gs, M, none⟩) hgl).trans ha0
            have e1 := (hB.frozen (p := ⟨gs, M, none⟩) hgl).trans hfz
            have hgx : gs < wx.heap.size := by omega
            obtain ⟨s9, h15, hr15⟩ : ∃ s9, u 15 = s9 ∧ Marks wx W7.heap.size s9 (mg (Tm.two s a b)) := (by first | exact hd.1 | exact hd.2)
            obtain ⟨A15, c15, rfl, -, -, -, -⟩ := hr15.form
            rw [h15]
            go_wp2
            exact ⟨undef, rfl, ⟨rfl, _, _, hB, hr15, rfl⟩, (if_pos rfl ▸ trivial : (if (17 : Nat) = 17 then True else _)), fun h => absurd h (by have := Nat.le_trans hf2 (by decide : _ ≤ 0); omega)⟩
        · intro u f wx hC hfin
          simp only [fillEnd, fillF, Act.put, List.setIfInBounds_toArray, List.set_cons_succ, List.set_cons_zero]
          obtain ⟨-, w9, s9, hb9, hr9, hw9⟩ := hfin 17 (by decide) (by decide)
          subst hw9
          clear hfin hC
          have hz9 := hb9.size
          have hST := (HST.out.keep hb9).top (s := s9) (L := (mg (Tm.two s a b))) (M := M) (by have := HM.out; simp [this]) (hr9.mono (by omega))
          have hb10 : Below w.heap.size w (w9.setCell ⟨gs, M, none⟩ s9) := by
            have : Below w.heap.size w w9 := hb7.trans (hb9.mono (by omega))
            exact this.setCell (by omega) _
          have HF := Lib.hid (And.intro hST hb10)
          clear hST hb10 hb9 hr9
          go_wp2
          go_roundw
          case rel =>
            refine ⟨k + 1, M + 1, c1, some ⟨gs, 0, none⟩, by omega, by go_num, rfl, by rw [HS.out]; simp; exact HM.out, ?_, HF.out.2⟩
            rw [HS.out]
            have h := HF.out.1
            have e : ((b :: a :: r).reverse.map mg).take M ++ [(mg (Tm.two s a b))] = ((Tm.two s a b) :: r).reverse.map mg := by
              have := HM.out
              subst this
              simp
            rw [e] at h
            exact h
          case measure => simp [intOf]; omega
    · have hk2 : k = L := by omega
      subst hk2
      have hE : stackT T k = [T] := by rw [← HL.out]; exact HE.out
      have hn1 : n = 1 := by rw [← hn, hE]; rfl
      subst hn1
      rw [hE] at hstk
      obtain ⟨vs, v1, v2, hown, v4⟩ := hstk
      have hvl : vs.length = 1 := by rw [v1]; rfl
      obtain ⟨gs, rfl, hgs1, hgs2, hcn, hcm, hc9⟩ := own_at hown (by omega)
      obtain ⟨f0, -⟩ := hc9 0 vs[0] (by simp <;> omega)
      have hI := v4 0 (by simp) (by omega)
      have ea : ([T].reverse.map mg)[0]'(by simp) = (mg T) := by simp
      rw [ea] at hI
      generalize vs[0] = va at *
      obtain ⟨Aa, ca, rfl, -, -, -, -⟩ := hI.form
      have HI := Lib.hid hI
      clear hown hc9 hn hE v1 v2 v4 hvl ea hI
      go_wp2
      go_ret
      exact ⟨_, rfl, HI.out, by (repeat (first | (with_reducible assumption) | (with_reducible exact Below.refl _ _) | ((with_reducible refine Below.alloc ?_ ?hsz _); (case hsz => (first | omega | (simp; done) | (simp; omega) | (simp at *; omega)))) | ((with_reducible refine Below.setCell ?_ ?hsz _); (case hsz => (first | omega | (simp; done) | (simp; omega) | (simp at *; omega)))) | (with_reducible refine Below.drew ?_) | (with_reducible refine below_drewN ?_ _) | ((with_reducible refine Below.trans ?_ (Below.mono (by with_reducible assumption) ?hsz)); (case hsz => (first | omega | (simp; done) | (simp; omega) | (simp at *; omega))))))⟩



set_option maxHeartbeats 1000000 in
set_option maxRecDepth 20000 in
theorem mergedTerm_any (v : Value) (ts : List Mk) (b : Nat) (w : World) (h : Marks w b v ts) :
    Calls Try.prog 34 #[v] w fun e w' => ∃ r, e = .returned r ∧ Marks w' w.heap.size r (mergedR ts) ∧ Below w.heap.size w w' := by
  have hruled : Calls Try.prog 60 #[v, .func (Fn.func 68) #[] #[]] w fun e w' => ∃ r, e = .returned r ∧ Marks w' w.heap.size r (mergedR ts) ∧ Below w.heap.size w w' := by
    obtain ⟨A, c, rfl, hc1, hc2, -, -⟩ := h.form
    unfold maxLen at hc2
    cases ht : termB ts
    · have HR := Lib.hid (show mergedR ts = [] by simp [mergedR, ht])
      go_enter Try.func60, Try.ntmps60
      go_wp2_with fail
      refine (termOk_any _ ts b _ h).mono ?_
      rintro e w1 ⟨rfl, hb1⟩
      rw [ht]
      go_wp2_with fail
      go_ret
      exact ⟨_, rfl, by rw [HR.out]; exact Marks_nil _ _, hb1⟩
    · obtain ⟨hT, hg, h7, -⟩ := term_of ht
      have HR := Lib.hid (show mergedR ts = mg (tmOf ts) by simp [mergedR, ht, mg])
      have HT := Lib.hid (And.intro hT (And.intro hg h7))
      clear hT hg h7
      go_enter Try.func60, Try.ntmps60
      go_wp2_with fail
      refine (termOk_any _ ts b _ h).mono ?_
      rintro e w1 ⟨rfl, hb1⟩
      rw [ht]
      have hA2 : ArgMarks w1 (.slice A ts.length c) (tmOf ts).marks := by rw [← HT.out.1]; exact h.arg.keep hb1
      have hz1 := hb1.size
      go_wp2_with fail
      refine (builtMerged_any (tmOf ts) HT.out.2.1 HT.out.2.2 _ _ hA2).mono ?_
      rintro e w2 ⟨r, rfl, hr, hb2⟩
      have hbF : Below w.heap.size w w2 := hb1.trans (hb2.mono hz1)
      have hfin := hr.mono hz1
      clear hb1 hb2 hr hA2
      go_wp2_with fail
      go_ret
      exact ⟨_, rfl, by rw [HR.out]; exact hfin, hbF⟩
  have HRU := Lib.hid hruled
  clear hruled
  go_enter Try.func34, Try.ntmps34
  go_wp2_with fail
  refine HRU.out.mono ?_
  rintro e w2 ⟨r, rfl, hr, hb2⟩
  go_wp2_with fail
  go_ret
  exact ⟨_, rfl, hr, hb2⟩

end Go.Proofs.Ytaohjhehlkeckaa
