/- Contracts of the functions of chapter 9 in the program: two pipes made one. -/
import Derived.Test.YtffeeiafgheoaaaBN
namespace Go.Proofs.Ytffeeiafgheoaaa
open Go.RowKit

theorem c6_set {w : World} {g : Nat} (h : ∀ k, k < 3 → (∃ v, w.cell? ⟨g, k, none⟩ = some v) ∧ w.frozen? ⟨g, k, none⟩ = false) (x y z : Value) :
    (∀ k, k < 3 → (∃ v, (((w.setCell ⟨g, 0, none⟩ x).setCell ⟨g, 1, none⟩ y).setCell ⟨g, 2, none⟩ z).cell? ⟨g, k, none⟩ = some v) ∧ (((w.setCell ⟨g, 0, none⟩ x).setCell ⟨g, 1, none⟩ y).setCell ⟨g, 2, none⟩ z).frozen? ⟨g, k, none⟩ = false) ∧
    (((w.setCell ⟨g, 0, none⟩ x).setCell ⟨g, 1, none⟩ y).setCell ⟨g, 2, none⟩ z).cell? ⟨g, 0, none⟩ = some x ∧ (((w.setCell ⟨g, 0, none⟩ x).setCell ⟨g, 1, none⟩ y).setCell ⟨g, 2, none⟩ z).cell? ⟨g, 1, none⟩ = some y ∧
    (((w.setCell ⟨g, 0, none⟩ x).setCell ⟨g, 1, none⟩ y).setCell ⟨g, 2, none⟩ z).cell? ⟨g, 2, none⟩ = some z := by
  obtain ⟨⟨v0, s0⟩, k0⟩ := h 0 (by omega)
  obtain ⟨⟨v1, s1⟩, k1⟩ := h 1 (by omega)
  obtain ⟨⟨v2, s2⟩, k2⟩ := h 2 (by omega)
  have a0 : (((w.setCell ⟨g, 0, none⟩ x).setCell ⟨g, 1, none⟩ y).setCell ⟨g, 2, none⟩ z).cell? ⟨g, 0, none⟩ = some x := by go_simp
  have a1 : (((w.setCell ⟨g, 0, none⟩ x).setCell ⟨g, 1, none⟩ y).setCell ⟨g, 2, none⟩ z).cell? ⟨g, 1, none⟩ = some y := by go_simp
  have a2 : (((w.setCell ⟨g, 0, none⟩ x).setCell ⟨g, 1, none⟩ y).setCell ⟨g, 2, none⟩ z).cell? ⟨g, 2, none⟩ = some z := by go_simp
  refine ⟨fun k hk => ?_, a0, a1, a2⟩
  have hk3 : k = 0 ∨ k = 1 ∨ k = 2 := by omega
  rcases hk3 with rfl | rfl | rfl
  · exact ⟨⟨_, a0⟩, by simpa using k0⟩
  · exact ⟨⟨_, a1⟩, by simpa using k1⟩
  · exact ⟨⟨_, a2⟩, by simpa using k2⟩

set_option linter.unusedVariables false in
/-- what the operations yield -/
def opV (g4 g5 g6 g8 : Nat) (H Q P1 P2 : Int) (ok gd : Bool) : Nat → Value → World → Prop
  | 0, x, _ => x = .agg #[.int .i64 0, .int .i64 H, .int .i64 Q]
  | 1, x, _ => x = .agg #[.int .i64 0, .int .i64 H, .int .i64 Q]
  | 2, x, _ => x = .bool ok
  | 3, x, w => x = x ∧ g6 < w.heap.size ∧ w.cell? ⟨g6, 0, none⟩ = some (.int .i64 0) ∧ w.cell? ⟨g6, 1, none⟩ = some (.int .i64 H) ∧ w.cell? ⟨g6, 2, none⟩ = some (.int .i64 Q)
  | 4, x, _ => x = .bool ok
  | _, _, _ => True

set_option linter.unusedVariables false in
/-- what the operations yield -/
def oqV (g4 g5 g6 g8 : Nat) (H Q P1 P2 : Int) (ok gd : Bool) : Nat → Value → World → Prop
  | 0, x, _ => x = .agg #[.int .i64 0, .int .i64 H, .int .i64 Q]
  | 1, x, _ => x = .pointer (some ⟨g4, 2, none⟩)
  | 2, x, _ => x = .int .i64 P1
  | 3, x, _ => x = .pointer (some ⟨g5, 2, none⟩)
  | 4, x, _ => x = .int .i64 P2
  | 5, x, _ => x = .bool gd
  | 6, x, _ => x = .bool gd
  | 7, x, _ => x = .agg #[.int .i64 0, .int .i64 H, .int .i64 Q]
  | 8, x, _ => x = .bool ok
  | 9, x, _ => x = .bool ok
  | 10, x, w => x = x ∧ g6 < w.heap.size ∧ w.cell? ⟨g6, 0, none⟩ = some (.int .i64 0) ∧ w.cell? ⟨g6, 1, none⟩ = some (.int .i64 H) ∧ w.cell? ⟨g6, 2, none⟩ = some (.int .i64 Q)
  | 11, x, _ => x = .bool ok
  | _, _, _ => True

set_option linter.unusedVariables false in
/-- what the operations yield -/
def orV (g4 g5 g6 g8 : Nat) (H Q P1 P2 : Int) (ok gd : Bool) : Nat → Value → World → Prop
  | 0, x, _ => x = .agg #[.int .i64 0, .int .i64 H, .int .i64 Q]
  | 1, x, _ => x = .pointer (some ⟨g4, 2, none⟩)
  | 2, x, _ => x = .int .i64 P1
  | 3, x, _ => x = .pointer (some ⟨g5, 2, none⟩)
  | 4, x, _ => x = .int .i64 P2
  | 5, x, _ => x = .bool gd
  | 6, x, _ => x = .bool gd
  | 7, x, _ => True
  | 8, x, _ => True
  | 9, x, _ => x = .bool ok
  | 10, x, w => x = x ∧ g6 < w.heap.size ∧ w.cell? ⟨g6, 0, none⟩ = some (.int .i64 0) ∧ w.cell? ⟨g6, 1, none⟩ = some (.int .i64 H) ∧ w.cell? ⟨g6, 2, none⟩ = some (.int .i64 Q)
  | 11, x, _ => x = .bool ok
  | _, _, _ => True

set_option maxHeartbeats 8000000 in
set_option maxRecDepth 20000 in
theorem onePipe_any (s : Bool) (k1 h1 p1 k2 h2 p2 : Int) (w : World) (g1 : (Tm.pipe h1 p1).good) (g2 : (Tm.pipe h2 p2).good) :
    Calls Try.prog 72 #[.int .i64 (kindI s), .agg #[.int .i64 k1, .int .i64 h1, .int .i64 p1], .agg #[.int .i64 k2, .int .i64 h2, .int .i64 p2]] w fun e w' => e = .returned (.tuple #[.agg #[.int .i64 0, .int .i64 (oneH s h1 h2), .int .i64 (oneP s p1 p2)], .bool (oneB s h1 p1 h2 p2)]) ∧ Below w.heap.size w w' := by
  obtain ⟨⟨a1, a2⟩, a3, a4⟩ := g1
  obtain ⟨⟨b1, b2⟩, b3, b4⟩ := g2
  obtain ⟨H, hH⟩ : ∃ H, oneH s h1 h2 = H := ⟨_, rfl⟩
  obtain ⟨Q, hQ⟩ : ∃ Q, oneP s p1 p2 = Q := ⟨_, rfl⟩
  rw [hH, hQ]
  obtain ⟨W7, hW7⟩ : ∃ W, W = (((w.alloc (.cells #[.int .i64 k1, .int .i64 h1, .int .i64 p1] 51)).alloc (.cells #[.int .i64 k2, .int .i64 h2, .int .i64 p2] 51)).alloc (.cells #[.int .i64 0, .int .i64 0, .int .i64 0] 51)).alloc (.cells #[.int .i64 0, .int .i64 H, .int .i64 Q] 51) := ⟨_, rfl⟩
  have hb7 : Below w.heap.size w W7 := by rw [hW7]; (repeat (first | (with_reducible assumption) | (with_reducible exact Below.refl _ _) | ((with_reducible refine Below.alloc ?_ ?hsz _); (case hsz => (first | omega | (simp; done) | (simp; omega) | (simp at *; omega)))) | ((with_reducible refine Below.setCell ?_ ?hsz _); (case hsz => (first | omega | (simp; done) | (simp; omega) | (simp at *; omega)))) | (with_reducible refine Below.drew ?_) | (with_reducible refine below_drewN ?_ _) | ((with_reducible refine Below.trans ?_ (Below.mono (by with_reducible assumption) ?hsz)); (case hsz => (first | omega | (simp; done) | (simp; omega) | (simp at *; omega))))))
  have hz7 : W7.heap.size = w.heap.size + 4 := by rw [hW7]; simp
  have f2 : W7.cell? ⟨w.heap.size, 2, none⟩ = some (.int .i64 p1) := by rw [hW7]; go_simp
  have s2 : W7.cell? ⟨w.heap.size + 1, 2, none⟩ = some (.int .i64 p2) := by rw [hW7]; go_simp
  have m0 : W7.cell? ⟨w.heap.size + 1 + 1 + 1, 0, none⟩ = some (.int .i64 0) := by rw [hW7]; go_simp
  have m1 : W7.cell? ⟨w.heap.size + 1 + 1 + 1, 1, none⟩ = some (.int .i64 H) := by rw [hW7]; go_simp
  have m2 : W7.cell? ⟨w.heap.size + 1 + 1 + 1, 2, none⟩ = some (.int .i64 Q) := by rw [hW7]; go_simp
  have h6c : ∀ k, k < 3 → (∃ v, W7.cell? ⟨w.heap.size + 1 + 1, k, none⟩ = some v) ∧ W7.frozen? ⟨w.heap.size + 1 + 1, k, none⟩ = false := by
    intro k hk
    have hk3 : k = 0 ∨ k = 1 ∨ k = 2 := by omega
    rcases hk3 with rfl | rfl | rfl
    all_goals exact ⟨⟨.int .i64 0, by rw [hW7]; go_simp⟩, by rw [hW7]; go_simp⟩
  cases s with
  | false =>
    have hk : kindI false = 1 := rfl
    rw [hk]
    have hQ' : p1 + p2 = Q := by rw [← hQ]; rfl
    have hHm : min h1 h2 = H := by rw [← hH]; rfl
    obtain ⟨bo, hbo⟩ : ∃ x, oneB false h1 p1 h2 p2 = x := ⟨_, rfl⟩
    have HOK := Lib.hid (show markB ⟨0, H, Q⟩ = bo by
      rw [← hbo]
      have e : oneB false h1 p1 h2 p2 = decide (Q ≤ 9) := by simp [oneB, hQ']
      rw [e]
      simp only [markB, if_true]
      by_cases h9 : Q ≤ 9
      · rw [decide_eq_true h9, decide_eq_true (by omega)]
      · rw [decide_eq_false h9, decide_eq_false (by omega)])
    rw [hbo]
    by_cases hm : h1 ≤ h2
    · have e1 : h1 = H := by omega
      subst e1
      clear hk hH hQ hHm hbo
      go_enter Try.func72, Try.ntmps72
      go_wp2_with fail
      rw [← hW7]
      clear hW7
      refine wp_region_flow 5 none [(0, 23), (1, 24), (2, 25), (4, 7)] (fun j x _ wx => opV w.heap.size (w.heap.size + 1) (w.heap.size + 1 + 1) (w.heap.size + 1 + 1 + 1) h1 Q p1 p2 bo true j x wx) (fun i wx wy => if i = 3 then True else Below wx.heap.size wx wy) (fun _ wx => W7.grownBy wx (some (w.heap.size + 1 + 1)) ∧ ∀ k, k < 3 → (∃ v, wx.cell? ⟨w.heap.size + 1 + 1, k, none⟩ = some v) ∧ wx.frozen? ⟨w.heap.size + 1 + 1, k, none⟩ = false) (by kernel_rfl) (by kernel_rfl) rfl ⟨grow_drew (grow_refl W7 _), fun k hk => h6c k hk⟩ ?_ ?_ ?_ ?_
      · intro i k hi hk hal x u wa wb hR hV
        have hk' : k < 5 := hk
        have hi' : i < 5 := hi
        by_cases ii : i = 3
        · subst ii
          rcases k with _ | _ | _ | _ | _ | k
          all_goals first | exact hV | (exfalso; revert hal; decide) | (exfalso; omega)
        · have hbb : Below wa.heap.size wa wb := by simpa [ii] using hR
          rcases k with _ | _ | _ | _ | _ | k
          all_goals first
            | exact hV
            | (exfalso; omega)
            | (obtain ⟨h0, h1, h2, h3, h4⟩ := hV; exact ⟨h0, Nat.lt_of_lt_of_le h1 hbb.size, (hbb.cell (p := ⟨_, 0, none⟩) h1).trans h2, (hbb.cell (p := ⟨_, 1, none⟩) h1).trans h3, (hbb.cell (p := ⟨_, 2, none⟩) h1).trans h4⟩)
      · exact fun _ _ _ _ _ _ _ h => h
      · simp (maxSteps := 4000000) only [eachOp, fillF, List.setIfInBounds_toArray, List.set_cons_succ, List.set_cons_zero]
        refine ⟨?_, ?_, ?_, ?_, ?_, trivial⟩ <;> intro u f wx hC hd <;> (try simp [allV, useOf, Region.binds] at hd)
        · obtain ⟨hg, hc6⟩ := hC
          have hgz := hg.size
          have e0 := (hg.cell_far ⟨w.heap.size + 1 + 1 + 1, 0, none⟩ (show w.heap.size + 1 + 1 + 1 < W7.heap.size by omega) (by intro h; injection h with h; dsimp only at h; omega)).trans m0
          have e1 := (hg.cell_far ⟨w.heap.size + 1 + 1 + 1, 1, none⟩ (show w.heap.size + 1 + 1 + 1 < W7.heap.size by omega) (by intro h; injection h with h; dsimp only at h; omega)).trans m1
          have e2 := (hg.cell_far ⟨w.heap.size + 1 + 1 + 1, 2, none⟩ (show w.heap.size + 1 + 1 + 1 < W7.heap.size by omega) (by intro h; injection h with h; dsimp only at h; omega)).trans m2
          go_wp2
          exact ⟨_, rfl, rfl, Below.refl _ _, hg, hc6⟩
        · obtain ⟨hg, hc6⟩ := hC
          have hgz := hg.size
          have e0 := (hg.cell_far ⟨w.heap.size + 1 + 1 + 1, 0, none⟩ (show w.heap.size + 1 + 1 + 1 < W7.heap.size by omega) (by intro h; injection h with h; dsimp only at h; omega)).trans m0
          have e1 := (hg.cell_far ⟨w.heap.size + 1 + 1 + 1, 1, none⟩ (show w.heap.size + 1 + 1 + 1 < W7.heap.size by omega) (by intro h; injection h with h; dsimp only at h; omega)).trans m1
          have e2 := (hg.cell_far ⟨w.heap.size + 1 + 1 + 1, 2, none⟩ (show w.heap.size + 1 + 1 + 1 < W7.heap.size by omega) (by intro h; injection h with h; dsimp only at h; omega)).trans m2
          go_wp2
          exact ⟨_, rfl, rfl, Below.refl _ _, hg, hc6⟩
        · rw [show u 1 = _ from (by first | exact hd | exact hd.1 | exact hd.2 | exact hd.2.1 | exact hd.2.2 | exact hd.2.2.1 | exact hd.2.2.2 | exact hd.2.2.2.1 | exact hd.2.2.2.2)]
          obtain ⟨hg, hc6⟩ := hC
          have hgz := hg.size
          go_wp2_with fail
          refine (markOk_any ⟨0, h1, Q⟩ wx).mono ?_
          rintro e wy ⟨rfl, hby⟩
          rw [HOK.out]
          go_wp2
          exact ⟨_, rfl, rfl, hby, grow_below hg hby, fun k hk => by obtain ⟨⟨v, h1⟩, h2⟩ := hc6 k hk; exact ⟨⟨v, (hby.cell (p := ⟨_, k, none⟩) (show w.heap.size + 1 + 1 < wx.heap.size by omega)).trans h1⟩, (hby.frozen (p := ⟨_, k, none⟩) (show w.heap.size + 1 + 1 < wx.heap.size by omega)).trans h2⟩⟩
        · rw [show u 0 = _ from (by first | exact hd | exact hd.1 | exact hd.2 | exact hd.2.1 | exact hd.2.2 | exact hd.2.2.1 | exact hd.2.2.2 | exact hd.2.2.2.1 | exact hd.2.2.2.2)]
          obtain ⟨hg, hc6⟩ := hC
          have hgz := hg.size
          obtain ⟨⟨v0, s0⟩, k0⟩ := hc6 0 (by omega)
          obtain ⟨⟨v1, s1⟩, k1⟩ := hc6 1 (by omega)
          obtain ⟨⟨v2, s2⟩, k2⟩ := hc6 2 (by omega)
          have h6x : w.heap.size + 1 + 1 < wx.heap.size := by omega
          obtain ⟨n6, n0, n1, n2⟩ := c6_set hc6 (.int .i64 0) (.int .i64 h1) (.int .i64 Q)
          go_wp2
          exact ⟨undef, rfl, ⟨rfl, by simpa using h6x, n0, n1, n2⟩, (if_pos rfl ▸ trivial : (if (3 : Nat) = 3 then True else _)), grow_set (grow_set (grow_set hg (.inr rfl) _) (.inr rfl) _) (.inr rfl) _, n6⟩
        · rw [show u 2 = _ from (by first | exact hd | exact hd.1 | exact hd.2 | exact hd.2.1 | exact hd.2.2 | exact hd.2.2.1 | exact hd.2.2.2 | exact hd.2.2.2.1 | exact hd.2.2.2.2)]
          obtain ⟨hg, hc6⟩ := hC
          have hgz := hg.size
          go_wp2
          exact ⟨_, rfl, rfl, Below.refl _ _, hg, hc6⟩
      · intro u f wx hC hfin
        simp only [fillEnd, fillF, Act.put, List.setIfInBounds_toArray, List.set_cons_succ, List.set_cons_zero]
        obtain ⟨-, hlt6, q0, q1, q2⟩ := hfin 3 (by decide) (by decide)
        have hlast : u 4 = .bool bo := hfin 4 (by decide) (by decide)
        rw [hlast]
        obtain ⟨hg, -⟩ := hC
        have hbF : Below w.heap.size w wx := hb7.trans (below_grow hg (by omega) (fun q hq => by injection hq with hq; omega))
        clear hfin hg
        go_wp2
        refine bodyPost_ret (v := .tuple #[.agg #[.int .i64 0, .int .i64 h1, .int .i64 Q], .bool bo]) (by simp [results, Try.results72, go_sem, q0, q1, q2]) rfl ⟨rfl, hbF⟩
    · have e1 : h2 = H := by omega
      subst e1
      clear hk hH hQ hHm hbo
      go_enter Try.func72, Try.ntmps72
      go_wp2_with fail
      rw [← hW7]
      clear hW7
      refine wp_region_flow 5 none [(0, 23), (1, 24), (2, 25), (4, 7)] (fun j x _ wx => opV w.heap.size (w.heap.size + 1) (w.heap.size + 1 + 1) (w.heap.size + 1 + 1 + 1) h2 Q p1 p2 bo true j x wx) (fun i wx wy => if i = 3 then True else Below wx.heap.size wx wy) (fun _ wx => W7.grownBy wx (some (w.heap.size + 1 + 1)) ∧ ∀ k, k < 3 → (∃ v, wx.cell? ⟨w.heap.size + 1 + 1, k, none⟩ = some v) ∧ wx.frozen? ⟨w.heap.size + 1 + 1, k, none⟩ = false) (by kernel_rfl) (by kernel_rfl) rfl ⟨grow_drew (grow_refl W7 _), fun k hk => h6c k hk⟩ ?_ ?_ ?_ ?_
      · intro i k hi hk hal x u wa wb hR hV
        have hk' : k < 5 := hk
        have hi' : i < 5 := hi
        by_cases ii : i = 3
        · subst ii
          rcases k with _ | _ | _ | _ | _ | k
          all_goals first | exact hV | (exfalso; revert hal; decide) | (exfalso; omega)
        · have hbb : Below wa.heap.size wa wb := by simpa [ii] using hR
          rcases k with _ | _ | _ | _ | _ | k
          all_goals first
            | exact hV
            | (exfalso; omega)
            | (obtain ⟨h0, h1, h2, h3, h4⟩ := hV; exact ⟨h0, Nat.lt_of_lt_of_le h1 hbb.size, (hbb.cell (p := ⟨_, 0, none⟩) h1).trans h2, (hbb.cell (p := ⟨_, 1, none⟩) h1).trans h3, (hbb.cell (p := ⟨_, 2, none⟩) h1).trans h4⟩)
      · exact fun _ _ _ _ _ _ _ h => h
      · simp (maxSteps := 4000000) only [eachOp, fillF, List.setIfInBounds_toArray, List.set_cons_succ, List.set_cons_zero]
        refine ⟨?_, ?_, ?_, ?_, ?_, trivial⟩ <;> intro u f wx hC hd <;> (try simp [allV, useOf, Region.binds] at hd)
        · obtain ⟨hg, hc6⟩ := hC
          have hgz := hg.size
          have e0 := (hg.cell_far ⟨w.heap.size + 1 + 1 + 1, 0, none⟩ (show w.heap.size + 1 + 1 + 1 < W7.heap.size by omega) (by intro h; injection h with h; dsimp only at h; omega)).trans m0
          have e1 := (hg.cell_far ⟨w.heap.size + 1 + 1 + 1, 1, none⟩ (show w.heap.size + 1 + 1 + 1 < W7.heap.size by omega) (by intro h; injection h with h; dsimp only at h; omega)).trans m1
          have e2 := (hg.cell_far ⟨w.heap.size + 1 + 1 + 1, 2, none⟩ (show w.heap.size + 1 + 1 + 1 < W7.heap.size by omega) (by intro h; injection h with h; dsimp only at h; omega)).trans m2
          go_wp2
          exact ⟨_, rfl, rfl, Below.refl _ _, hg, hc6⟩
        · obtain ⟨hg, hc6⟩ := hC
          have hgz := hg.size
          have e0 := (hg.cell_far ⟨w.heap.size + 1 + 1 + 1, 0, none⟩ (show w.heap.size + 1 + 1 + 1 < W7.heap.size by omega) (by intro h; injection h with h; dsimp only at h; omega)).trans m0
          have e1 := (hg.cell_far ⟨w.heap.size + 1 + 1 + 1, 1, none⟩ (show w.heap.size + 1 + 1 + 1 < W7.heap.size by omega) (by intro h; injection h with h; dsimp only at h; omega)).trans m1
          have e2 := (hg.cell_far ⟨w.heap.size + 1 + 1 + 1, 2, none⟩ (show w.heap.size + 1 + 1 + 1 < W7.heap.size by omega) (by intro h; injection h with h; dsimp only at h; omega)).trans m2
          go_wp2
          exact ⟨_, rfl, rfl, Below.refl _ _, hg, hc6⟩
        · rw [show u 1 = _ from (by first | exact hd | exact hd.1 | exact hd.2 | exact hd.2.1 | exact hd.2.2 | exact hd.2.2.1 | exact hd.2.2.2 | exact hd.2.2.2.1 | exact hd.2.2.2.2)]
          obtain ⟨hg, hc6⟩ := hC
          have hgz := hg.size
          go_wp2_with fail
          refine (markOk_any ⟨0, h2, Q⟩ wx).mono ?_
          rintro e wy ⟨rfl, hby⟩
          rw [HOK.out]
          go_wp2
          exact ⟨_, rfl, rfl, hby, grow_below hg hby, fun k hk => by obtain ⟨⟨v, h1⟩, h2⟩ := hc6 k hk; exact ⟨⟨v, (hby.cell (p := ⟨_, k, none⟩) (show w.heap.size + 1 + 1 < wx.heap.size by omega)).trans h1⟩, (hby.frozen (p := ⟨_, k, none⟩) (show w.heap.size + 1 + 1 < wx.heap.size by omega)).trans h2⟩⟩
        · rw [show u 0 = _ from (by first | exact hd | exact hd.1 | exact hd.2 | exact hd.2.1 | exact hd.2.2 | exact hd.2.2.1 | exact hd.2.2.2 | exact hd.2.2.2.1 | exact hd.2.2.2.2)]
          obtain ⟨hg, hc6⟩ := hC
          have hgz := hg.size
          obtain ⟨⟨v0, s0⟩, k0⟩ := hc6 0 (by omega)
          obtain ⟨⟨v1, s1⟩, k1⟩ := hc6 1 (by omega)
          obtain ⟨⟨v2, s2⟩, k2⟩ := hc6 2 (by omega)
          have h6x : w.heap.size + 1 + 1 < wx.heap.size := by omega
          obtain ⟨n6, n0, n1, n2⟩ := c6_set hc6 (.int .i64 0) (.int .i64 h2) (.int .i64 Q)
          go_wp2
          exact ⟨undef, rfl, ⟨rfl, by simpa using h6x, n0, n1, n2⟩, (if_pos rfl ▸ trivial : (if (3 : Nat) = 3 then True else _)), grow_set (grow_set (grow_set hg (.inr rfl) _) (.inr rfl) _) (.inr rfl) _, n6⟩
        · rw [show u 2 = _ from (by first | exact hd | exact hd.1 | exact hd.2 | exact hd.2.1 | exact hd.2.2 | exact hd.2.2.1 | exact hd.2.2.2 | exact hd.2.2.2.1 | exact hd.2.2.2.2)]
          obtain ⟨hg, hc6⟩ := hC
          have hgz := hg.size
          go_wp2
          exact ⟨_, rfl, rfl, Below.refl _ _, hg, hc6⟩
      · intro u f wx hC hfin
        simp only [fillEnd, fillF, Act.put, List.setIfInBounds_toArray, List.set_cons_succ, List.set_cons_zero]
        obtain ⟨-, hlt6, q0, q1, q2⟩ := hfin 3 (by decide) (by decide)
        have hlast : u 4 = .bool bo := hfin 4 (by decide) (by decide)
        rw [hlast]
        obtain ⟨hg, -⟩ := hC
        have hbF : Below w.heap.size w wx := hb7.trans (below_grow hg (by omega) (fun q hq => by injection hq with hq; omega))
        clear hfin hg
        go_wp2
        refine bodyPost_ret (v := .tuple #[.agg #[.int .i64 0, .int .i64 h2, .int .i64 Q], .bool bo]) (by simp [results, Try.results72, go_sem, q0, q1, q2]) rfl ⟨rfl, hbF⟩
  | true =>
    have hk : kindI true = 2 := rfl
    rw [hk]
    have hQ' : p1 = Q := by rw [← hQ]; rfl
    have hHm : h1 + h2 = H := by rw [← hH]; rfl
    subst hQ'
    obtain ⟨bo, hbo⟩ : ∃ x, oneB true h1 p1 h2 p2 = x := ⟨_, rfl⟩
    rw [hbo]
    by_cases hp : p1 = p2
    · have HOK := Lib.hid (show markB ⟨0, H, p1⟩ = bo by
        rw [← hbo]
        have e : oneB true h1 p1 h2 p2 = decide (H ≤ 4) := by simp [oneB, hp, hHm]
        rw [e]
        simp only [markB, if_true]
        by_cases h9 : H ≤ 4
        · rw [decide_eq_true h9, decide_eq_true (by omega)]
        · rw [decide_eq_false h9, decide_eq_false (by omega)])
      have hpe : (p1 == p2) = true := by simpa using hp
      clear hk hH hQ hbo hp
      go_enter Try.func72, Try.ntmps72
      go_wp2_with fail
      rw [← hW7]
      clear hW7
      refine wp_region_flow 12 none [(0, 34), (1, 35), (2, 36), (3, 37), (4, 38), (5, 39), (6, 40), (7, 41), (8, 42), (9, 43), (11, 7)] (fun j x _ wx => oqV w.heap.size (w.heap.size + 1) (w.heap.size + 1 + 1) (w.heap.size + 1 + 1 + 1) H p1 p1 p2 bo true j x wx) (fun i wx wy => if i = 10 then True else Below wx.heap.size wx wy) (fun _ wx => W7.grownBy wx (some (w.heap.size + 1 + 1)) ∧ ∀ k, k < 3 → (∃ v, wx.cell? ⟨w.heap.size + 1 + 1, k, none⟩ = some v) ∧ wx.frozen? ⟨w.heap.size + 1 + 1, k, none⟩ = false) (by kernel_rfl) (by kernel_rfl) rfl ⟨grow_drew (grow_refl W7 _), fun k hk => h6c k hk⟩ ?_ ?_ ?_ ?_
      · intro i k hi hk hal x u wa wb hR hV
        have hk' : k < 12 := hk
        have hi' : i < 12 := hi
        by_cases ii : i = 10
        · subst ii
          rcases k with _ | _ | _ | _ | _ | _ | _ | _ | _ | _ | _ | _ | k
          all_goals first | exact hV | (exfalso; revert hal; decide) | (exfalso; omega)
        · have hbb : Below wa.heap.size wa wb := by simpa [ii] using hR
          rcases k with _ | _ | _ | _ | _ | _ | _ | _ | _ | _ | _ | _ | k
          all_goals first
            | exact hV
            | (exfalso; omega)
            | (obtain ⟨h0, h1, h2, h3, h4⟩ := hV; exact ⟨h0, Nat.lt_of_lt_of_le h1 hbb.size, (hbb.cell (p := ⟨_, 0, none⟩) h1).trans h2, (hbb.cell (p := ⟨_, 1, none⟩) h1).trans h3, (hbb.cell (p := ⟨_, 2, none⟩) h1).trans h4⟩)
      · exact fun _ _ _ _ _ _ _ h => h
      · simp (maxSteps := 4000000) only [eachOp, fillF, List.setIfInBounds_toArray, List.set_cons_succ, List.set_cons_zero]
        refine ⟨?_, ?_, ?_, ?_, ?_, ?_, ?_, ?_, ?_, ?_, ?_, ?_, trivial⟩ <;> intro u f wx hC hd <;> (try simp [allV, useOf, Region.binds] at hd)
        · obtain ⟨hg, hc6⟩ := hC
          have hgz := hg.size
          have e0 := (hg.cell_far ⟨w.heap.size + 1 + 1 + 1, 0, none⟩ (show w.heap.size + 1 + 1 + 1 < W7.heap.size by omega) (by intro h; injection h with h; dsimp only at h; omega)).trans m0
          have e1 := (hg.cell_far ⟨w.heap.size + 1 + 1 + 1, 1, none⟩ (show w.heap.size + 1 + 1 + 1 < W7.heap.size by omega) (by intro h; injection h with h; dsimp only at h; omega)).trans m1
          have e2 := (hg.cell_far ⟨w.heap.size + 1 + 1 + 1, 2, none⟩ (show w.heap.size + 1 + 1 + 1 < W7.heap.size by omega) (by intro h; injection h with h; dsimp only at h; omega)).trans m2
          go_wp2
          exact ⟨_, rfl, rfl, Below.refl _ _, hg, hc6⟩
        · obtain ⟨hg, hc6⟩ := hC
          have hgz := hg.size
          go_wp2
          exact ⟨_, rfl, rfl, Below.refl _ _, hg, hc6⟩
        · rw [show u 1 = _ from (by first | exact hd | exact hd.1 | exact hd.2 | exact hd.2.1 | exact hd.2.2 | exact hd.2.2.1 | exact hd.2.2.2 | exact hd.2.2.2.1 | exact hd.2.2.2.2)]
          obtain ⟨hg, hc6⟩ := hC
          have hgz := hg.size
          have e0 := (hg.cell_far ⟨w.heap.size, 2, none⟩ (show w.heap.size < W7.heap.size by omega) (by intro h; injection h with h; dsimp only at h; omega)).trans f2
          go_wp2
          exact ⟨_, rfl, rfl, Below.refl _ _, hg, hc6⟩
        · obtain ⟨hg, hc6⟩ := hC
          have hgz := hg.size
          go_wp2
          exact ⟨_, rfl, rfl, Below.refl _ _, hg, hc6⟩
        · rw [show u 3 = _ from (by first | exact hd | exact hd.1 | exact hd.2 | exact hd.2.1 | exact hd.2.2 | exact hd.2.2.1 | exact hd.2.2.2 | exact hd.2.2.2.1 | exact hd.2.2.2.2)]
          obtain ⟨hg, hc6⟩ := hC
          have hgz := hg.size
          have e0 := (hg.cell_far ⟨w.heap.size + 1, 2, none⟩ (show w.heap.size + 1 < W7.heap.size by omega) (by intro h; injection h with h; dsimp only at h; omega)).trans s2
          go_wp2
          exact ⟨_, rfl, rfl, Below.refl _ _, hg, hc6⟩
        · rw [show u 2 = _ from (by first | exact hd | exact hd.1 | exact hd.2 | exact hd.2.1 | exact hd.2.2 | exact hd.2.2.1 | exact hd.2.2.2 | exact hd.2.2.2.1 | exact hd.2.2.2.2), show u 4 = _ from (by first | exact hd | exact hd.1 | exact hd.2 | exact hd.2.1 | exact hd.2.2 | exact hd.2.2.1 | exact hd.2.2.2 | exact hd.2.2.2.1 | exact hd.2.2.2.2)]
          obtain ⟨hg, hc6⟩ := hC
          have hgz := hg.size
          go_wp2
          exact ⟨_, rfl, rfl, Below.refl _ _, hg, hc6⟩
        · rw [show u 5 = _ from (by first | exact hd | exact hd.1 | exact hd.2 | exact hd.2.1 | exact hd.2.2 | exact hd.2.2.1 | exact hd.2.2.2 | exact hd.2.2.2.1 | exact hd.2.2.2.2)]
          obtain ⟨hg, hc6⟩ := hC
          have hgz := hg.size
          go_wp2
          exact ⟨_, rfl, rfl, Below.refl _ _, hg, hc6⟩
        · rw [show u 6 = .bool true from (by first | exact hd | exact hd.1 | exact hd.2 | exact hd.2.1 | exact hd.2.2)]
          obtain ⟨hg, hc6⟩ := hC
          have hgz := hg.size
          have e0 := (hg.cell_far ⟨w.heap.size + 1 + 1 + 1, 0, none⟩ (show w.heap.size + 1 + 1 + 1 < W7.heap.size by omega) (by intro h; injection h with h; dsimp only at h; omega)).trans m0
          have e1 := (hg.cell_far ⟨w.heap.size + 1 + 1 + 1, 1, none⟩ (show w.heap.size + 1 + 1 + 1 < W7.heap.size by omega) (by intro h; injection h with h; dsimp only at h; omega)).trans m1
          have e2 := (hg.cell_far ⟨w.heap.size + 1 + 1 + 1, 2, none⟩ (show w.heap.size + 1 + 1 + 1 < W7.heap.size by omega) (by intro h; injection h with h; dsimp only at h; omega)).trans m2
          go_wp2
          exact ⟨_, rfl, rfl, Below.refl _ _, hg, hc6⟩
        · rw [show u 7 = _ from (by first | exact hd | exact hd.1 | exact hd.2 | exact hd.2.1 | exact hd.2.2 | exact hd.2.2.1 | exact hd.2.2.2 | exact hd.2.2.2.1 | exact hd.2.2.2.2)]
          rw [show u 6 = .bool true from (by first | exact hd | exact hd.1 | exact hd.2 | exact hd.2.1 | exact hd.2.2)]
          obtain ⟨hg, hc6⟩ := hC
          have hgz := hg.size
          go_wp2_with fail
          refine (markOk_any ⟨0, H, p1⟩ wx).mono ?_
          rintro e wy ⟨rfl, hby⟩
          rw [HOK.out]
          go_wp2
          exact ⟨_, rfl, rfl, hby, grow_below hg hby, fun k hk => by obtain ⟨⟨v, h1⟩, h2⟩ := hc6 k hk; exact ⟨⟨v, (hby.cell (p := ⟨_, k, none⟩) (show w.heap.size + 1 + 1 < wx.heap.size by omega)).trans h1⟩, (hby.frozen (p := ⟨_, k, none⟩) (show w.heap.size + 1 + 1 < wx.heap.size by omega)).trans h2⟩⟩
        · rw [show u 6 = _ from (by first | exact hd | exact hd.1 | exact hd.2 | exact hd.2.1 | exact hd.2.2 | exact hd.2.2.1 | exact hd.2.2.2 | exact hd.2.2.2.1 | exact hd.2.2.2.2), show u 8 = _ from (by first | exact hd | exact hd.1 | exact hd.2 | exact hd.2.1 | exact hd.2.2 | exact hd.2.2.1 | exact hd.2.2.2 | exact hd.2.2.2.1 | exact hd.2.2.2.2)]
          obtain ⟨hg, hc6⟩ := hC
          have hgz := hg.size
          go_wp2
          exact ⟨_, rfl, rfl, Below.refl _ _, hg, hc6⟩
        · rw [show u 0 = _ from (by first | exact hd | exact hd.1 | exact hd.2 | exact hd.2.1 | exact hd.2.2 | exact hd.2.2.1 | exact hd.2.2.2 | exact hd.2.2.2.1 | exact hd.2.2.2.2)]
          obtain ⟨hg, hc6⟩ := hC
          have hgz := hg.size
          obtain ⟨⟨v0, s0⟩, k0⟩ := hc6 0 (by omega)
          obtain ⟨⟨v1, s1⟩, k1⟩ := hc6 1 (by omega)
          obtain ⟨⟨v2, s2⟩, k2⟩ := hc6 2 (by omega)
          have h6x : w.heap.size + 1 + 1 < wx.heap.size := by omega
          obtain ⟨n6, n0, n1, n2⟩ := c6_set hc6 (.int .i64 0) (.int .i64 H) (.int .i64 p1)
          go_wp2
          exact ⟨undef, rfl, ⟨rfl, by simpa using h6x, n0, n1, n2⟩, (if_pos rfl ▸ trivial : (if (10 : Nat) = 10 then True else _)), grow_set (grow_set (grow_set hg (.inr rfl) _) (.inr rfl) _) (.inr rfl) _, n6⟩
        · rw [show u 9 = _ from (by first | exact hd | exact hd.1 | exact hd.2 | exact hd.2.1 | exact hd.2.2 | exact hd.2.2.1 | exact hd.2.2.2 | exact hd.2.2.2.1 | exact hd.2.2.2.2)]
          obtain ⟨hg, hc6⟩ := hC
          have hgz := hg.size
          go_wp2
          exact ⟨_, rfl, rfl, Below.refl _ _, hg, hc6⟩
      · intro u f wx hC hfin
        simp only [fillEnd, fillF, Act.put, List.setIfInBounds_toArray, List.set_cons_succ, List.set_cons_zero]
        obtain ⟨-, hlt6, q0, q1, q2⟩ := hfin 10 (by decide) (by decide)
        have hlast : u 11 = .bool bo := hfin 11 (by decide) (by decide)
        rw [hlast]
        obtain ⟨hg, -⟩ := hC
        have hbF : Below w.heap.size w wx := hb7.trans (below_grow hg (by omega) (fun q hq => by injection hq with hq; omega))
        clear hfin hg
        go_wp2
        refine bodyPost_ret (v := .tuple #[.agg #[.int .i64 0, .int .i64 H, .int .i64 p1], .bool bo]) (by simp [results, Try.results72, go_sem, q0, q1, q2]) rfl ⟨rfl, hbF⟩
    · have hb0 : bo = false := by rw [← hbo]; simp [oneB, hp]
      subst hb0
      have hpe : (p1 == p2) = false := by simpa using hp
      clear hk hH hQ hbo hp
      go_enter Try.func72, Try.ntmps72
      go_wp2_with fail
      rw [← hW7]
      clear hW7
      refine wp_region_flow 12 none [(0, 34), (1, 35), (2, 36), (3, 37), (4, 38), (5, 39), (6, 40), (7, 41), (8, 42), (9, 43), (11, 7)] (fun j x _ wx => orV w.heap.size (w.heap.size + 1) (w.heap.size + 1 + 1) (w.heap.size + 1 + 1 + 1) H p1 p1 p2 false false j x wx) (fun i wx wy => if i = 10 then True else Below wx.heap.size wx wy) (fun _ wx => W7.grownBy wx (some (w.heap.size + 1 + 1)) ∧ ∀ k, k < 3 → (∃ v, wx.cell? ⟨w.heap.size + 1 + 1, k, none⟩ = some v) ∧ wx.frozen? ⟨w.heap.size + 1 + 1, k, none⟩ = false) (by kernel_rfl) (by kernel_rfl) rfl ⟨grow_drew (grow_refl W7 _), fun k hk => h6c k hk⟩ ?_ ?_ ?_ ?_
      · intro i k hi hk hal x u wa wb hR hV
        have hk' : k < 12 := hk
        have hi' : i < 12 := hi
        by_cases ii : i = 10
        · subst ii
          rcases k with _ | _ | _ | _ | _ | _ | _ | _ | _ | _ | _ | _ | k
          all_goals first | exact hV | (exfalso; revert hal; decide) | (exfalso; omega)
        · have hbb : Below wa.heap.size wa wb := by simpa [ii] using hR
          rcases k with _ | _ | _ | _ | _ | _ | _ | _ | _ | _ | _ | _ | k
          all_goals first
            | exact hV
            | (exfalso; omega)
            | (obtain ⟨h0, h1, h2, h3, h4⟩ := hV; exact ⟨h0, Nat.lt_of_lt_of_le h1 hbb.size, (hbb.cell (p := ⟨_, 0, none⟩) h1).trans h2, (hbb.cell (p := ⟨_, 1, none⟩) h1).trans h3, (hbb.cell (p := ⟨_, 2, none⟩) h1).trans h4⟩)
      · exact fun _ _ _ _ _ _ _ h => h
      · simp (maxSteps := 4000000) only [eachOp, fillF, List.setIfInBounds_toArray, List.set_cons_succ, List.set_cons_zero]
        refine ⟨?_, ?_, ?_, ?_, ?_, ?_, ?_, ?_, ?_, ?_, ?_, ?_, trivial⟩ <;> intro u f wx hC hd <;> (try simp [allV, useOf, Region.binds] at hd)
        · obtain ⟨hg, hc6⟩ := hC
          have hgz := hg.size
          have e0 := (hg.cell_far ⟨w.heap.size + 1 + 1 + 1, 0, none⟩ (show w.heap.size + 1 + 1 + 1 < W7.heap.size by omega) (by intro h; injection h with h; dsimp only at h; omega)).trans m0
          have e1 := (hg.cell_far ⟨w.heap.size + 1 + 1 + 1, 1, none⟩ (show w.heap.size + 1 + 1 + 1 < W7.heap.size by omega) (by intro h; injection h with h; dsimp only at h; omega)).trans m1
          have e2 := (hg.cell_far ⟨w.heap.size + 1 + 1 + 1, 2, none⟩ (show w.heap.size + 1 + 1 + 1 < W7.heap.size by omega) (by intro h; injection h with h; dsimp only at h; omega)).trans m2
          go_wp2
          exact ⟨_, rfl, rfl, Below.refl _ _, hg, hc6⟩
        · obtain ⟨hg, hc6⟩ := hC
          have hgz := hg.size
          go_wp2
          exact ⟨_, rfl, rfl, Below.refl _ _, hg, hc6⟩
        · rw [show u 1 = _ from (by first | exact hd | exact hd.1 | exact hd.2 | exact hd.2.1 | exact hd.2.2 | exact hd.2.2.1 | exact hd.2.2.2 | exact hd.2.2.2.1 | exact hd.2.2.2.2)]
          obtain ⟨hg, hc6⟩ := hC
          have hgz := hg.size
          have e0 := (hg.cell_far ⟨w.heap.size, 2, none⟩ (show w.heap.size < W7.heap.size by omega) (by intro h; injection h with h; dsimp only at h; omega)).trans f2
          go_wp2
          exact ⟨_, rfl, rfl, Below.refl _ _, hg, hc6⟩
        · obtain ⟨hg, hc6⟩ := hC
          have hgz := hg.size
          go_wp2
          exact ⟨_, rfl, rfl, Below.refl _ _, hg, hc6⟩
        · rw [show u 3 = _ from (by first | exact hd | exact hd.1 | exact hd.2 | exact hd.2.1 | exact hd.2.2 | exact hd.2.2.1 | exact hd.2.2.2 | exact hd.2.2.2.1 | exact hd.2.2.2.2)]
          obtain ⟨hg, hc6⟩ := hC
          have hgz := hg.size
          have e0 := (hg.cell_far ⟨w.heap.size + 1, 2, none⟩ (show w.heap.size + 1 < W7.heap.size by omega) (by intro h; injection h with h; dsimp only at h; omega)).trans s2
          go_wp2
          exact ⟨_, rfl, rfl, Below.refl _ _, hg, hc6⟩
        · rw [show u 2 = _ from (by first | exact hd | exact hd.1 | exact hd.2 | exact hd.2.1 | exact hd.2.2 | exact hd.2.2.1 | exact hd.2.2.2 | exact hd.2.2.2.1 | exact hd.2.2.2.2), show u 4 = _ from (by first | exact hd | exact hd.1 | exact hd.2 | exact hd.2.1 | exact hd.2.2 | exact hd.2.2.1 | exact hd.2.2.2 | exact hd.2.2.2.1 | exact hd.2.2.2.2)]
          obtain ⟨hg, hc6⟩ := hC
          have hgz := hg.size
          go_wp2
          exact ⟨_, rfl, rfl, Below.refl _ _, hg, hc6⟩
        · rw [show u 5 = _ from (by first | exact hd | exact hd.1 | exact hd.2 | exact hd.2.1 | exact hd.2.2 | exact hd.2.2.1 | exact hd.2.2.2 | exact hd.2.2.2.1 | exact hd.2.2.2.2)]
          obtain ⟨hg, hc6⟩ := hC
          have hgz := hg.size
          go_wp2
          exact ⟨_, rfl, rfl, Below.refl _ _, hg, hc6⟩
        · rw [show u 6 = .bool false from (by first | exact hd | exact hd.1 | exact hd.2 | exact hd.2.1 | exact hd.2.2)]
          obtain ⟨hg, hc6⟩ := hC
          have hgz := hg.size
          have e0 := (hg.cell_far ⟨w.heap.size + 1 + 1 + 1, 0, none⟩ (show w.heap.size + 1 + 1 + 1 < W7.heap.size by omega) (by intro h; injection h with h; dsimp only at h; omega)).trans m0
          have e1 := (hg.cell_far ⟨w.heap.size + 1 + 1 + 1, 1, none⟩ (show w.heap.size + 1 + 1 + 1 < W7.heap.size by omega) (by intro h; injection h with h; dsimp only at h; omega)).trans m1
          have e2 := (hg.cell_far ⟨w.heap.size + 1 + 1 + 1, 2, none⟩ (show w.heap.size + 1 + 1 + 1 < W7.heap.size by omega) (by intro h; injection h with h; dsimp only at h; omega)).trans m2
          go_wp2
          exact ⟨_, rfl, trivial, Below.refl _ _, hg, hc6⟩
        · rw [show u 6 = .bool false from (by first | exact hd | exact hd.1 | exact hd.2 | exact hd.2.1 | exact hd.2.2)]
          obtain ⟨hg, hc6⟩ := hC
          have hgz := hg.size
          go_wp2
          exact ⟨_, rfl, trivial, Below.refl _ _, hg, hc6⟩
        · rw [show u 6 = _ from (by first | exact hd | exact hd.1 | exact hd.2 | exact hd.2.1 | exact hd.2.2 | exact hd.2.2.1 | exact hd.2.2.2 | exact hd.2.2.2.1 | exact hd.2.2.2.2)]
          obtain ⟨hg, hc6⟩ := hC
          have hgz := hg.size
          go_wp2
          exact ⟨_, rfl, rfl, Below.refl _ _, hg, hc6⟩
        · rw [show u 0 = _ from (by first | exact hd | exact hd.1 | exact hd.2 | exact hd.2.1 | exact hd.2.2 | exact hd.2.2.1 | exact hd.2.2.2 | exact hd.2.2.2.1 | exact hd.2.2.2.2)]
          obtain ⟨hg, hc6⟩ := hC
          have hgz := hg.size
          obtain ⟨⟨v0, s0⟩, k0⟩ := hc6 0 (by omega)
          obtain ⟨⟨v1, s1⟩, k1⟩ := hc6 1 (by omega)
          obtain ⟨⟨v2, s2⟩, k2⟩ := hc6 2 (by omega)
          have h6x : w.heap.size + 1 + 1 < wx.heap.size := by omega
          obtain ⟨n6, n0, n1, n2⟩ := c6_set hc6 (.int .i64 0) (.int .i64 H) (.int .i64 p1)
          go_wp2
          exact ⟨undef, rfl, ⟨rfl, by simpa using h6x, n0, n1, n2⟩, (if_pos rfl ▸ trivial : (if (10 : Nat) = 10 then True else _)), grow_set (grow_set (grow_set hg (.inr rfl) _) (.inr rfl) _) (.inr rfl) _, n6⟩
        · rw [show u 9 = _ from (by first | exact hd | exact hd.1 | exact hd.2 | exact hd.2.1 | exact hd.2.2 | exact hd.2.2.1 | exact hd.2.2.2 | exact hd.2.2.2.1 | exact hd.2.2.2.2)]
          obtain ⟨hg, hc6⟩ := hC
          have hgz := hg.size
          go_wp2
          exact ⟨_, rfl, rfl, Below.refl _ _, hg, hc6⟩
      · intro u f wx hC hfin
        simp only [fillEnd, fillF, Act.put, List.setIfInBounds_toArray, List.set_cons_succ, List.set_cons_zero]
        obtain ⟨-, hlt6, q0, q1, q2⟩ := hfin 10 (by decide) (by decide)
        have hlast : u 11 = .bool false := hfin 11 (by decide) (by decide)
        rw [hlast]
        obtain ⟨hg, -⟩ := hC
        have hbF : Below w.heap.size w wx := hb7.trans (below_grow hg (by omega) (fun q hq => by injection hq with hq; omega))
        clear hfin hg
        go_wp2
        refine bodyPost_ret (v := .tuple #[.agg #[.int .i64 0, .int .i64 H, .int .i64 p1], .bool false]) (by simp [results, Try.results72, go_sem, q0, q1, q2]) rfl ⟨rfl, hbF⟩

end Go.Proofs.Ytffeeiafgheoaaa
