/- Plain facts. -/
import Derived.Test.YtobbeofibkpbaaaGZ18
import Derived.Test.YtobbeofibkpbaaaGZ23
import Derived.Test.YtobbeofibkpbaaaGZ55
import Derived.Test.YtobbeofibkpbaaaMG
import Derived.Test.YtobbeofibkpbaaaGZ8
/- Contracts of the functions of chapter 8 in the program: a pipe's net, joinedNets. -/
namespace Go.Proofs.Ytobbeofibkpbaaa
open Go.RowKit

/- what two nets make -/
def joinN (s : Bool) (n m : Int) : Int := if s then n + m - 2 else n + m - 1
def joinP (s : Bool) (n : Int) (ps qs : List Pp) : List Pp := if s then ps ++ qs.map (movedP 0 1 (n - 2)) else ps.map (movedP 0 2 1) ++ qs.map (movedP 2 1 (n - 1))

theorem catPipes {w : World} {b : Nat} {v : Value} {L1 L2 : List Pp} (h : w.ownsRow b 45 5 v [L1.length, L2.length].sum [L1.flatMap Pp.cells, L2.flatMap Pp.cells].flatten) (hs : L1.length + L2.length ≤ small := by unfold small; omega) : Pipes w b v (L1 ++ L2) := by
  refine ⟨?_, by simpa using hs⟩
  rw [List.flatMap_append, List.length_append]
  simpa using h
theorem twoPipes {w : World} {g b b' : Nat} {u v : Value} {L1 L2 : List Pp} {t : TypeId} {fr : Nat × Nat} (h : w.heap[g]? = some (.cells #[u, v] t fr)) (h1 : Pipes w b u L1) (h2 : Pipes w b' v L2) :
    SrcsOk w 5 g 2 [L1.length, L2.length] [L1.flatMap Pp.cells, L2.flatMap Pp.cells] := by
  refine ⟨rfl, rfl, heap_lt h, fun k hk => ?_⟩
  have hk2 : k = 0 ∨ k = 1 := by omega
  rcases hk2 with rfl | rfl
  · exact ⟨u, heap_cell h rfl, fun W hW => (h1.keep hW).src⟩
  · exact ⟨v, heap_cell h rfl, fun W hW => (h2.keep hW).src⟩

set_option maxHeartbeats 1000000 in
set_option maxRecDepth 20000 in
theorem pipeNet_any (k h p : Int) (w : World) :
    Calls Try.prog 102 #[.agg #[.int .i64 k, .int .i64 h, .int .i64 p]] w fun e w' => ∃ r, e = .returned (.agg #[.int .i64 2, r]) ∧ Pipes w' w.heap.size r [⟨0, 1, 0, h, p⟩] ∧ Below w.heap.size w w' := by
  go_enter Try.func102, Try.ntmps102
  go_wp2
  refine bodyPost_ret (v := .agg #[.int .i64 2, .slice (some ⟨w.heap.size + 2, 0, none⟩) 1 1]) (by simp [results, Try.results102, go_sem]) rfl ⟨_, rfl, ?_, by (repeat (first | (with_reducible assumption) | (with_reducible exact Below.refl _ _) | ((with_reducible refine Below.alloc ?_ ?hsz _); (case hsz => (first | omega | (simp; done) | (simp; omega) | (simp at *; omega)))) | ((with_reducible refine Below.setCell ?_ ?hsz _); (case hsz => (first | omega | (simp; done) | (simp; omega) | (simp at *; omega)))) | (with_reducible refine Below.drew ?_) | (with_reducible refine below_drewN ?_ _) | ((with_reducible refine Below.trans ?_ (Below.mono (by with_reducible assumption) ?hsz)); (case hsz => (first | omega | (simp; done) | (simp; omega) | (simp at *; omega))))))⟩
  have h0 := World.ownsRow_lit (e := 45) (base := w.heap.size) (size := 5) ((w.alloc (.cells #[.int .i64 k, .int .i64 h, .int .i64 p] 102)).alloc (.cells #[.int .i64 2, .slice (some ⟨w.heap.size + 1 + 1, 0, none⟩) 1 1] 25)) #[.int .i64 0, .int .i64 1, .int .i64 0, .int .i64 h, .int .i64 p] 1 (by simp; omega) (by simp [maxLen]) rfl
  rw [World.size_alloc, World.size_alloc] at h0
  exact ⟨h0, by simp [small]⟩

/-- what the operations yield -/
def jbV (W : World) (g4 g5 g6 : Nat) (N2 F N : Int) (v1 v2 : Value) (L1 L2 : List Pp) : Nat → Value → World → Prop
  | 0, x, _ => x = .pointer (some ⟨g5, 0, none⟩)
  | 1, x, _ => x = .int .i64 N2
  | 2, x, _ => x = .int .i64 F
  | 3, x, _ => x = .int .i64 N
  | 4, x, _ => x = .pointer (some ⟨g4, 1, none⟩)
  | 5, x, _ => x = v1
  | 6, x, _ => x = .pointer (some ⟨g5, 1, none⟩)
  | 7, x, _ => x = v2
  | 8, x, _ => x = .int .i64 F
  | 9, x, w => Pipes w W.heap.size x L2
  | 10, x, w => ∃ g s, x = .slice (some ⟨g, 0, none⟩) 2 2 ∧ w.heap[g]? = some (.cells #[v1, s] 23 (0, 0)) ∧ Pipes w W.heap.size s L2
  | 11, x, w => Pipes w W.heap.size x (L1 ++ L2)
  | 12, x, w => ∃ s, x = .agg #[.int .i64 N, s] ∧ Pipes w W.heap.size s (L1 ++ L2)
  | 13, x, w => x = x ∧ ∃ w' s, Below W.heap.size W w' ∧ Pipes w' W.heap.size s (L1 ++ L2) ∧ w = (w'.setCell ⟨g6, 0, none⟩ (.int .i64 N)).setCell ⟨g6, 1, none⟩ s
  | _, _, _ => True
/-- what the operations yield -/
def jtV (W : World) (g4 g5 g6 : Nat) (N1 N2 F N : Int) (v1 v2 : Value) (L1 L2 : List Pp) : Nat → Value → World → Prop
  | 0, x, _ => x = .pointer (some ⟨g4, 0, none⟩)
  | 1, x, _ => x = .int .i64 N1
  | 2, x, _ => x = .pointer (some ⟨g5, 0, none⟩)
  | 3, x, _ => x = .int .i64 N2
  | 4, x, _ => x = .int .i64 (N1 + N2)
  | 5, x, _ => x = .int .i64 N
  | 6, x, _ => x = .pointer (some ⟨g4, 1, none⟩)
  | 7, x, _ => x = v1
  | 8, x, w => Pipes w W.heap.size x L1
  | 9, x, _ => x = .pointer (some ⟨g5, 1, none⟩)
  | 10, x, _ => x = v2
  | 11, x, _ => x = .pointer (some ⟨g4, 0, none⟩)
  | 12, x, _ => x = .int .i64 N1
  | 13, x, _ => x = .int .i64 F
  | 14, x, w => Pipes w W.heap.size x L2
  | 15, x, w => ∃ g s s', x = .slice (some ⟨g, 0, none⟩) 2 2 ∧ w.heap[g]? = some (.cells #[s, s'] 23 (0, 0)) ∧ Pipes w W.heap.size s L1 ∧ Pipes w W.heap.size s' L2
  | 16, x, w => Pipes w W.heap.size x (L1 ++ L2)
  | 17, x, w => ∃ s, x = .agg #[.int .i64 N, s] ∧ Pipes w W.heap.size s (L1 ++ L2)
  | 18, x, w => x = x ∧ ∃ w' s, Below W.heap.size W w' ∧ Pipes w' W.heap.size s (L1 ++ L2) ∧ w = (w'.setCell ⟨g6, 0, none⟩ (.int .i64 N)).setCell ⟨g6, 1, none⟩ s
  | _, _, _ => True

set_option maxHeartbeats 8000000 in
set_option maxRecDepth 20000 in
theorem joinedNets_any (s : Bool) (N1 N2 : Int) (u v : Value) (ps qs : List Pp) (b b' : Nat) (w : World) (hp0 : Pipes w b u ps) (hq0 : Pipes w b' v qs) (hl1 : ps.length ≤ 100) (hl2 : qs.length ≤ 100)
    (hn1 : 2 ≤ N1 ∧ N1 ≤ 50) (hn2 : 2 ≤ N2 ∧ N2 ≤ 50) (hbp : ∀ p ∈ ps, (0 ≤ p.fr ∧ p.fr ≤ 100) ∧ 0 ≤ p.to ∧ p.to ≤ 100) (hbq : ∀ p ∈ qs, (0 ≤ p.fr ∧ p.fr ≤ 100) ∧ 0 ≤ p.to ∧ p.to ≤ 100) :
    Calls Try.prog 103 #[.int .i64 (kindI s), .agg #[.int .i64 N1, u], .agg #[.int .i64 N2, v]] w fun e w' => ∃ r, e = .returned (.agg #[.int .i64 (joinN s N1 N2), r]) ∧ Pipes w' w.heap.size r (joinP s N1 ps qs) ∧ Below w.heap.size w w' := by
  obtain ⟨Au, cu, rfl, -, -, -, -⟩ := hp0.form
  obtain ⟨Av, cv, rfl, -, -, -, -⟩ := hq0.form
  obtain ⟨lu, hlu⟩ : ∃ l, ps.length = l := ⟨_, rfl⟩
  obtain ⟨lv, hlv⟩ : ∃ l, qs.length = l := ⟨_, rfl⟩
  have HLU := Lib.hid hlu
  have HLV := Lib.hid hlv
  obtain ⟨n10, n11⟩ := hn1
  obtain ⟨n20, n21⟩ := hn2
  obtain ⟨W7, hW7⟩ : ∃ W, W = ((w.alloc (.cells #[.int .i64 N1, .slice Au lu cu] 25)).alloc (.cells #[.int .i64 N2, .slice Av lv cv] 25)).alloc (.cells #[.int .i64 0, .slice none 0 0] 25) := ⟨_, rfl⟩
  have hb7 : Below w.heap.size w W7 := by rw [hW7]; (repeat (first | (with_reducible assumption) | (with_reducible exact Below.refl _ _) | ((with_reducible refine Below.alloc ?_ ?hsz _); (case hsz => (first | omega | (simp; done) | (simp; omega) | (simp at *; omega)))) | ((with_reducible refine Below.setCell ?_ ?hsz _); (case hsz => (first | omega | (simp; done) | (simp; omega) | (simp at *; omega)))) | (with_reducible refine Below.drew ?_) | (with_reducible refine below_drewN ?_ _) | ((with_reducible refine Below.trans ?_ (Below.mono (by with_reducible assumption) ?hsz)); (case hsz => (first | omega | (simp; done) | (simp; omega) | (simp at *; omega))))))
  have hz7 : W7.heap.size = w.heap.size + 3 := by rw [hW7]; simp
  have h4 : w.heap.size < W7.heap.size := by omega
  have h5 : w.heap.size + 1 < W7.heap.size := by omega
  have h6 : w.heap.size + 1 + 1 < W7.heap.size := by omega
  have h6w : w.heap.size ≤ w.heap.size + 1 + 1 := by omega
  have d40 : W7.cell? ⟨w.heap.size, 0, none⟩ = some (.int .i64 N1) := by rw [hW7]; go_simp
  have d41 : W7.cell? ⟨w.heap.size, 1, none⟩ = some (.slice Au lu cu) := by rw [hW7]; go_simp
  have d50 : W7.cell? ⟨w.heap.size + 1, 0, none⟩ = some (.int .i64 N2) := by rw [hW7]; go_simp
  have d51 : W7.cell? ⟨w.heap.size + 1, 1, none⟩ = some (.slice Av lv cv) := by rw [hW7]; go_simp
  have d60 : W7.cell? ⟨w.heap.size + 1 + 1, 0, none⟩ = some (.int .i64 0) := by rw [hW7]; go_simp
  have d61 : W7.cell? ⟨w.heap.size + 1 + 1, 1, none⟩ = some (.slice none 0 0) := by rw [hW7]; go_simp
  have f60 : W7.frozen? ⟨w.heap.size + 1 + 1, 0, none⟩ = false := by rw [hW7]; go_simp
  have f61 : W7.frozen? ⟨w.heap.size + 1 + 1, 1, none⟩ = false := by rw [hW7]; go_simp
  have hp := hp0.keep hb7
  have hq := hq0.keep hb7
  rw [hlu] at hp hl1 ⊢
  rw [hlv] at hq hl2 ⊢
  clear hp0 hq0
  cases s with
  | true =>
    obtain ⟨F, hF⟩ : ∃ F, N1 - 2 = F := ⟨_, rfl⟩
    obtain ⟨N, hN⟩ : ∃ N, joinN true N1 N2 = N := ⟨_, rfl⟩
    have hNv : N2 + F = N := by rw [← hN, ← hF]; simp [joinN]; omega
    obtain ⟨L1, hL1⟩ : ∃ L, L = ps := ⟨_, rfl⟩
    subst hL1
    obtain ⟨L2, hL2⟩ : ∃ L, L = qs.map (movedP 0 1 F) := ⟨_, rfl⟩
    have hJ : joinP true N1 L1 qs = L1 ++ L2 := by rw [hL2, ← hF]; rfl
    have hll1 : L1.length = lu := hlu
    have hll2 : L2.length = lv := by rw [hL2, List.length_map, hlv]
    rw [hN, hJ]
    have hk : kindI true = 2 := rfl
    rw [hk]
    have hF0 : 0 ≤ F := by omega
    have hF1 : F ≤ 100 := by omega
    have HF2 := Lib.hid hF
    have HLs2 := Lib.hid hL2
    have hq1k : qs.length ≤ 1000 := by omega
    clear hk hN hJ hlu hlv hF hL2
    go_enter Try.func103, Try.ntmps103
    go_wp2_with fail
    rw [← hW7, HF2.out]
    clear hW7
    refine wp_region_flowL 14 none [(0, 13), (1, 14), (2, 15), (3, 16), (4, 17), (5, 18), (6, 19), (7, 20), (8, 21), (9, 22), (10, 23), (11, 24), (12, 25)] (fun j x _ wx => jbV W7 w.heap.size (w.heap.size + 1) (w.heap.size + 1 + 1) N2 F N (.slice Au lu cu) (.slice Av lv cv) L1 L2 j x wx) (fun i wx wy => if i = 13 then True else Below wx.heap.size wx wy) (fun f wx => 1 ≤ f → Below W7.heap.size W7 wx) (by kernel_rfl) (by kernel_rfl) rfl (fun _ => ⟨rfl, rfl, rfl, Nat.le_refl _, fun _ _ => rfl⟩) ?_ ?_ ?_ ?_
    · intro i k hi hk hal x u wa wb hR hV
      have hk' : k < 14 := hk
      have hi' : i < 14 := hi
      by_cases nn : k = 13
      · subst nn
        exfalso
        rcases i with _ | _ | _ | _ | _ | _ | _ | _ | _ | _ | _ | _ | _ | _ | i
        all_goals (first | omega | (revert hal; decide))
      · by_cases ii : i = 13
        · subst ii
          rcases k with _ | _ | _ | _ | _ | _ | _ | _ | _ | _ | _ | _ | _ | _ | k
          all_goals first | exact hV | (exfalso; revert hal; decide) | (exfalso; omega)
        · have hbb : Below wa.heap.size wa wb := by simpa [ii] using hR
          rcases k with _ | _ | _ | _ | _ | _ | _ | _ | _ | _ | _ | _ | _ | _ | k
          all_goals first
            | exact hV
            | (exfalso; omega)
            | exact Pipes.keep hV hbb
            | (obtain ⟨s, h1, h2⟩ := hV; exact ⟨s, h1, h2.keep hbb⟩)
            | (obtain ⟨g, s, h1, h2, h3⟩ := hV; exact ⟨g, s, h1, heap_keep h2 hbb, h3.keep hbb⟩)
            | (obtain ⟨g, s, s', h1, h2, h3, h4⟩ := hV; exact ⟨g, s, s', h1, heap_keep h2 hbb, h3.keep hbb, h4.keep hbb⟩)
    · exact fun _ _ _ _ _ _ _ h => h
    · simp (maxSteps := 4000000) only [eachOp, fillF, List.setIfInBounds_toArray, List.set_cons_succ, List.set_cons_zero]
      refine ⟨?_, ?_, ?_, ?_, ?_, ?_, ?_, ?_, ?_, ?_, ?_, ?_, ?_, ?_, trivial⟩ <;> intro u f wx hC hd hf <;> (try simp [allV, useOf, Region.binds] at hd)
      · have hf1 : 1 ≤ f := Nat.le_trans (by decide) hf.1
        have hB := hC (by omega)
        clear hf
        have hBz := hB.size
        go_wp2
        first | exact ⟨_, rfl, rfl, Below.refl _ _, fun _ => hB⟩ | exact ⟨_, rfl, rfl, Below.refl _ _, hB⟩
      · rw [show u 0 = _ from (by first | exact hd | exact hd.1 | exact hd.2 | exact hd.2.1 | exact hd.2.2 | exact hd.2.2.1 | exact hd.2.2.2 | exact hd.2.2.2.1 | exact hd.2.2.2.2)]
        have hf1 : 1 ≤ f := Nat.le_trans (by decide) hf.1
        have hB := hC (by omega)
        clear hf
        have hBz := hB.size
        have e0 := (hB.cell (p := ⟨w.heap.size + 1, 0, none⟩) h5).trans d50
        go_wp2
        first | exact ⟨_, rfl, rfl, Below.refl _ _, fun _ => hB⟩ | exact ⟨_, rfl, rfl, Below.refl _ _, hB⟩
      · have hf1 : 1 ≤ f := Nat.le_trans (by decide) hf.1
        have hB := hC (by omega)
        clear hf
        have hBz := hB.size
        go_wp2
        first | exact ⟨_, rfl, rfl, Below.refl _ _, fun _ => hB⟩ | exact ⟨_, rfl, rfl, Below.refl _ _, hB⟩
      · rw [show u 1 = _ from (by first | exact hd | exact hd.1 | exact hd.2 | exact hd.2.1 | exact hd.2.2 | exact hd.2.2.1 | exact hd.2.2.2 | exact hd.2.2.2.1 | exact hd.2.2.2.2), show u 2 = _ from (by first | exact hd | exact hd.1 | exact hd.2 | exact hd.2.1 | exact hd.2.2 | exact hd.2.2.1 | exact hd.2.2.2 | exact hd.2.2.2.1 | exact hd.2.2.2.2)]
        have hf1 : 1 ≤ f := Nat.le_trans (by decide) hf.1
        have hB := hC (by omega)
        clear hf
        have hBz := hB.size
        have hw : IntKind.i64.wrap (N2 + F) = N := by rw [IntWalk.i64_in _ (by omega)]; omega
        go_wp2
        first | exact ⟨_, rfl, rfl, Below.refl _ _, fun _ => hB⟩ | exact ⟨_, rfl, rfl, Below.refl _ _, hB⟩
      · have hf1 : 1 ≤ f := Nat.le_trans (by decide) hf.1
        have hB := hC (by omega)
        clear hf
        have hBz := hB.size
        go_wp2
        first | exact ⟨_, rfl, rfl, Below.refl _ _, fun _ => hB⟩ | exact ⟨_, rfl, rfl, Below.refl _ _, hB⟩
      · rw [show u 4 = _ from (by first | exact hd | exact hd.1 | exact hd.2 | exact hd.2.1 | exact hd.2.2 | exact hd.2.2.1 | exact hd.2.2.2 | exact hd.2.2.2.1 | exact hd.2.2.2.2)]
        have hf1 : 1 ≤ f := Nat.le_trans (by decide) hf.1
        have hB := hC (by omega)
        clear hf
        have hBz := hB.size
        have e0 := (hB.cell (p := ⟨w.heap.size, 1, none⟩) h4).trans d41
        go_wp2
        first | exact ⟨_, rfl, rfl, Below.refl _ _, fun _ => hB⟩ | exact ⟨_, rfl, rfl, Below.refl _ _, hB⟩
      · have hf1 : 1 ≤ f := Nat.le_trans (by decide) hf.1
        have hB := hC (by omega)
        clear hf
        have hBz := hB.size
        go_wp2
        first | exact ⟨_, rfl, rfl, Below.refl _ _, fun _ => hB⟩ | exact ⟨_, rfl, rfl, Below.refl _ _, hB⟩
      · rw [show u 6 = _ from (by first | exact hd | exact hd.1 | exact hd.2 | exact hd.2.1 | exact hd.2.2 | exact hd.2.2.1 | exact hd.2.2.2 | exact hd.2.2.2.1 | exact hd.2.2.2.2)]
        have hf1 : 1 ≤ f := Nat.le_trans (by decide) hf.1
        have hB := hC (by omega)
        clear hf
        have hBz := hB.size
        have e0 := (hB.cell (p := ⟨w.heap.size + 1, 1, none⟩) h5).trans d51
        go_wp2
        first | exact ⟨_, rfl, rfl, Below.refl _ _, fun _ => hB⟩ | exact ⟨_, rfl, rfl, Below.refl _ _, hB⟩
      · have hf1 : 1 ≤ f := Nat.le_trans (by decide) hf.1
        have hB := hC (by omega)
        clear hf
        have hBz := hB.size
        go_wp2
        first | exact ⟨_, rfl, rfl, Below.refl _ _, fun _ => hB⟩ | exact ⟨_, rfl, rfl, Below.refl _ _, hB⟩
      · rw [show u 7 = _ from (by first | exact hd | exact hd.1 | exact hd.2 | exact hd.2.1 | exact hd.2.2 | exact hd.2.2.1 | exact hd.2.2.2 | exact hd.2.2.2.1 | exact hd.2.2.2.2), show u 8 = _ from (by first | exact hd | exact hd.1 | exact hd.2 | exact hd.2.1 | exact hd.2.2 | exact hd.2.2.1 | exact hd.2.2.2 | exact hd.2.2.2.1 | exact hd.2.2.2.2)]
        have hf1 : 1 ≤ f := Nat.le_trans (by decide) hf.1
        have hB := hC (by omega)
        clear hf
        have hBz := hB.size
        go_wp2_with fail
        refine (movedPipes_any _ qs 0 1 F _ wx (hq.keep hB) (by omega) hbq (by omega) (by omega)).mono ?_
        rintro e wy ⟨r, rfl, hr, hby⟩
        rw [← HLs2.out] at hr
        go_wp2
        first | exact ⟨_, rfl, hr.mono hBz, hby, fun _ => hB.trans (hby.mono hBz)⟩ | exact ⟨_, rfl, hr.mono hBz, hby, hB.trans (hby.mono hBz)⟩
      · rw [show u 5 = _ from (by first | exact hd | exact hd.1 | exact hd.2 | exact hd.2.1 | exact hd.2.2 | exact hd.2.2.1 | exact hd.2.2.2 | exact hd.2.2.2.1 | exact hd.2.2.2.2)]
        have hf1 : 1 ≤ f := Nat.le_trans (by decide) hf.1
        have hB := hC (by omega)
        clear hf
        have hBz := hB.size
        have hP2 : Pipes wx W7.heap.size (u 9) L2 := (by first | exact hd.1 | exact hd.2)
        obtain ⟨A2, c2, hv2, -, -, -, -⟩ := hP2.form
        rw [hll2] at hv2
        rw [hv2] at hP2 ⊢
        clear hv2 hd
        have hP2x := hP2
        go_wp2
        first | exact ⟨_, rfl, ⟨_, _, rfl, heap_alloc_new _ _, hP2.keep (by (repeat (first | (with_reducible assumption) | (with_reducible exact Below.refl _ _) | ((with_reducible refine Below.alloc ?_ ?hsz _); (case hsz => (first | omega | (simp; done) | (simp; omega) | (simp at *; omega)))) | ((with_reducible refine Below.setCell ?_ ?hsz _); (case hsz => (first | omega | (simp; done) | (simp; omega) | (simp at *; omega)))) | (with_reducible refine Below.drew ?_) | (with_reducible refine below_drewN ?_ _) | ((with_reducible refine Below.trans ?_ (Below.mono (by with_reducible assumption) ?hsz)); (case hsz => (first | omega | (simp; done) | (simp; omega) | (simp at *; omega)))))))⟩, (Below.refl _ _).alloc (Nat.le_refl _) _, fun _ => hB.alloc hBz _⟩ | exact ⟨_, rfl, ⟨_, _, rfl, heap_alloc_new _ _, hP2.keep (by (repeat (first | (with_reducible assumption) | (with_reducible exact Below.refl _ _) | ((with_reducible refine Below.alloc ?_ ?hsz _); (case hsz => (first | omega | (simp; done) | (simp; omega) | (simp at *; omega)))) | ((with_reducible refine Below.setCell ?_ ?hsz _); (case hsz => (first | omega | (simp; done) | (simp; omega) | (simp at *; omega)))) | (with_reducible refine Below.drew ?_) | (with_reducible refine below_drewN ?_ _) | ((with_reducible refine Below.trans ?_ (Below.mono (by with_reducible assumption) ?hsz)); (case hsz => (first | omega | (simp; done) | (simp; omega) | (simp at *; omega)))))))⟩, (Below.refl _ _).alloc (Nat.le_refl _) _, hB.alloc hBz _⟩
      · have hf1 : 1 ≤ f := Nat.le_trans (by decide) hf.1
        have hB := hC (by omega)
        clear hf
        have hBz := hB.size
        obtain ⟨gl, s2, h10, hh, hP2⟩ : ∃ g s, u 10 = .slice (some ⟨g, 0, none⟩) 2 2 ∧ wx.heap[g]? = some (.cells #[.slice Au lu cu, s] 23 (0, 0)) ∧ Pipes wx W7.heap.size s L2 := (by first | exact hd | exact hd.1 | exact hd.2)
        rw [h10]
        have hP1 : Pipes wx b (.slice Au lu cu) L1 := hp.keep hB
        have hsrcs := twoPipes hh hP1 hP2
        go_wp2_with fail
        refine (concatPipe_any _ 2 _ _ wx hsrcs (by omega) (by simp; omega)).mono ?_
        rintro e wy ⟨r, rfl, hr, hby⟩
        have hr3 := catPipes hr
        go_wp2
        first | exact ⟨_, rfl, hr3.mono hBz, hby, fun _ => hB.trans (hby.mono hBz)⟩ | exact ⟨_, rfl, hr3.mono hBz, hby, hB.trans (hby.mono hBz)⟩
      · rw [show u 3 = _ from (by first | exact hd | exact hd.1 | exact hd.2 | exact hd.2.1 | exact hd.2.2 | exact hd.2.2.1 | exact hd.2.2.2 | exact hd.2.2.2.1 | exact hd.2.2.2.2)]
        have hf1 : 1 ≤ f := Nat.le_trans (by decide) hf.1
        have hB := hC (by omega)
        clear hf
        have hBz := hB.size
        have hP3 : Pipes wx W7.heap.size (u 11) (L1 ++ L2) := (by first | exact hd.1 | exact hd.2)
        obtain ⟨A3, c3, hv3, -, -, -, -⟩ := hP3.form
        obtain ⟨l3, hl3⟩ : ∃ l, (L1 ++ L2).length = l := ⟨_, rfl⟩
        rw [hl3] at hv3
        rw [hv3] at hP3 ⊢
        clear hl3 hv3 hd
        go_wp2
        first | exact ⟨_, rfl, ⟨_, rfl, hP3⟩, Below.refl _ _, fun _ => hB⟩ | exact ⟨_, rfl, ⟨_, rfl, hP3⟩, Below.refl _ _, hB⟩
      · have hf2 := hf.2
        have hB := hC (by omega)
        clear hf
        have hBz := hB.size
        obtain ⟨s9, h12, hP3⟩ : ∃ s9, u 12 = .agg #[.int .i64 N, s9] ∧ Pipes wx W7.heap.size s9 (L1 ++ L2) := (by first | exact hd | exact hd.1 | exact hd.2)
        obtain ⟨A3, c3, hv3, -, -, -, -⟩ := hP3.form
        obtain ⟨l3, hl3⟩ : ∃ l, (L1 ++ L2).length = l := ⟨_, rfl⟩
        rw [hl3] at hv3
        rw [hv3] at hP3 h12
        rw [h12]
        clear hl3 hv3 h12 hd
        have e6 := (hB.cell (p := ⟨w.heap.size + 1 + 1, 0, none⟩) h6).trans d60
        have e7 := (hB.cell (p := ⟨w.heap.size + 1 + 1, 1, none⟩) h6).trans d61
        have k6 := (hB.frozen (p := ⟨w.heap.size + 1 + 1, 0, none⟩) h6).trans f60
        have k7 := (hB.frozen (p := ⟨w.heap.size + 1 + 1, 1, none⟩) h6).trans f61
        have hgx : w.heap.size + 1 + 1 < wx.heap.size := by omega
        go_wp2
        exact ⟨undef, rfl, ⟨rfl, _, _, hB, hP3, rfl⟩, (if_pos rfl ▸ trivial : (if (13 : Nat) = 13 then True else _)), fun h => absurd h (by have := Nat.le_trans hf2 (by decide : _ ≤ 0); omega)⟩
    · intro u f wx hC hfin
      simp only [fillEnd, fillF, Act.put, List.setIfInBounds_toArray, List.set_cons_succ, List.set_cons_zero]
      obtain ⟨-, w9, s9, hb9, hP9, hw9⟩ := hfin 13 (by decide) (by decide)
      subst hw9
      clear hfin hC
      have hz9 := hb9.size
      have hb10 : Below w.heap.size w ((w9.setCell ⟨w.heap.size + 1 + 1, 0, none⟩ (.int .i64 N)).setCell ⟨w.heap.size + 1 + 1, 1, none⟩ s9) := ((hb7.trans (hb9.mono (by omega))).setCell (p := ⟨w.heap.size + 1 + 1, 0, none⟩) (by omega) _).setCell (p := ⟨w.heap.size + 1 + 1, 1, none⟩) (by omega) _
      obtain ⟨A9, c9, rfl, -, -, -, -⟩ := hP9.form
      have hP10 : Pipes ((w9.setCell ⟨w.heap.size + 1 + 1, 0, none⟩ (.int .i64 N)).setCell ⟨w.heap.size + 1 + 1, 1, none⟩ (.slice A9 (L1 ++ L2).length c9)) w.heap.size (.slice A9 (L1 ++ L2).length c9) (L1 ++ L2) := ((hP9.setLow (by omega)).setLow (by omega)).mono (by omega)
      have q6 := (hb9.cell (p := ⟨w.heap.size + 1 + 1, 0, none⟩) h6).trans d60
      have q7 := (hb9.cell (p := ⟨w.heap.size + 1 + 1, 1, none⟩) h6).trans d61
      obtain ⟨l9, hl9⟩ : ∃ l9, (L1 ++ L2).length = l9 := ⟨_, rfl⟩
      rw [hl9] at hP10 hb10 hP9 ⊢
      clear hP9 hb9 hl9
      have HF := Lib.hid (And.intro hP10 hb10)
      clear hP10 hb10
      go_wp2
      refine bodyPost_ret (v := .agg #[.int .i64 N, .slice A9 l9 c9]) (by simp [results, Try.results103, go_sem, q6, q7]) rfl ⟨_, rfl, HF.out.1, HF.out.2⟩
  | false =>
    obtain ⟨F, hF⟩ : ∃ F, N1 - 1 = F := ⟨_, rfl⟩
    obtain ⟨N, hN⟩ : ∃ N, joinN false N1 N2 = N := ⟨_, rfl⟩
    have hNv : N1 + N2 - 1 = N := by rw [← hN]; simp [joinN]
    obtain ⟨L1, hL1⟩ : ∃ L, L = ps.map (movedP 0 2 1) := ⟨_, rfl⟩
    obtain ⟨L2, hL2⟩ : ∃ L, L = qs.map (movedP 2 1 F) := ⟨_, rfl⟩
    have hJ : joinP false N1 ps qs = L1 ++ L2 := by rw [hL1, hL2, ← hF]; rfl
    have hll1 : L1.length = lu := by rw [hL1, List.length_map, hlu]
    have hll2 : L2.length = lv := by rw [hL2, List.length_map, hlv]
    rw [hN, hJ]
    have hk : kindI false = 1 := rfl
    rw [hk]
    have hF0 : 0 ≤ F := by omega
    have hF1 : F ≤ 100 := by omega
    have HLs1 := Lib.hid hL1
    have HLs2 := Lib.hid hL2
    have hp1k : ps.length ≤ 1000 := by omega
    have hq1k : qs.length ≤ 1000 := by omega
    clear hk hN hJ hlu hlv hL1 hL2
    go_enter Try.func103, Try.ntmps103
    go_wp2_with fail
    rw [← hW7]
    clear hW7
    refine wp_region_flowL 19 none [(0, 26), (1, 27), (2, 28), (3, 29), (4, 30), (5, 31), (6, 32), (7, 33), (8, 34), (9, 35), (10, 36), (11, 37), (12, 38), (13, 39), (14, 40), (15, 41), (16, 42), (17, 43)] (fun j x _ wx => jtV W7 w.heap.size (w.heap.size + 1) (w.heap.size + 1 + 1) N1 N2 F N (.slice Au lu cu) (.slice Av lv cv) L1 L2 j x wx) (fun i wx wy => if i = 18 then True else Below wx.heap.size wx wy) (fun f wx => 1 ≤ f → Below W7.heap.size W7 wx) (by kernel_rfl) (by kernel_rfl) rfl (fun _ => ⟨rfl, rfl, rfl, Nat.le_refl _, fun _ _ => rfl⟩) ?_ ?_ ?_ ?_
    · intro i k hi hk hal x u wa wb hR hV
      have hk' : k < 19 := hk
      have hi' : i < 19 := hi
      by_cases nn : k = 18
      · subst nn
        exfalso
        rcases i with _ | _ | _ | _ | _ | _ | _ | _ | _ | _ | _ | _ | _ | _ | _ | _ | _ | _ | _ | i
        all_goals (first | omega | (revert hal; decide))
      · by_cases ii : i = 18
        · subst ii
          rcases k with _ | _ | _ | _ | _ | _ | _ | _ | _ | _ | _ | _ | _ | _ | _ | _ | _ | _ | _ | k
          all_goals first | exact hV | (exfalso; revert hal; decide) | (exfalso; omega)
        · have hbb : Below wa.heap.size wa wb := by simpa [ii] using hR
          rcases k with _ | _ | _ | _ | _ | _ | _ | _ | _ | _ | _ | _ | _ | _ | _ | _ | _ | _ | _ | k
          all_goals first
            | exact hV
            | (exfalso; omega)
            | exact Pipes.keep hV hbb
            | (obtain ⟨s, h1, h2⟩ := hV; exact ⟨s, h1, h2.keep hbb⟩)
            | (obtain ⟨g, s, h1, h2, h3⟩ := hV; exact ⟨g, s, h1, heap_keep h2 hbb, h3.keep hbb⟩)
            | (obtain ⟨g, s, s', h1, h2, h3, h4⟩ := hV; exact ⟨g, s, s', h1, heap_keep h2 hbb, h3.keep hbb, h4.keep hbb⟩)
    · exact fun _ _ _ _ _ _ _ h => h
    · simp (maxSteps := 4000000) only [eachOp, fillF, List.setIfInBounds_toArray, List.set_cons_succ, List.set_cons_zero]
      refine ⟨?_, ?_, ?_, ?_, ?_, ?_, ?_, ?_, ?_, ?_, ?_, ?_, ?_, ?_, ?_, ?_, ?_, ?_, ?_, trivial⟩ <;> intro u f wx hC hd hf <;> (try simp [allV, useOf, Region.binds] at hd)
      · have hf1 : 1 ≤ f := Nat.le_trans (by decide) hf.1
        have hB := hC (by omega)
        clear hf
        have hBz := hB.size
        go_wp2
        first | exact ⟨_, rfl, rfl, Below.refl _ _, fun _ => hB⟩ | exact ⟨_, rfl, rfl, Below.refl _ _, hB⟩
      · rw [show u 0 = _ from (by first | exact hd | exact hd.1 | exact hd.2 | exact hd.2.1 | exact hd.2.2 | exact hd.2.2.1 | exact hd.2.2.2 | exact hd.2.2.2.1 | exact hd.2.2.2.2)]
        have hf1 : 1 ≤ f := Nat.le_trans (by decide) hf.1
        have hB := hC (by omega)
        clear hf
        have hBz := hB.size
        have e0 := (hB.cell (p := ⟨w.heap.size, 0, none⟩) h4).trans d40
        go_wp2
        first | exact ⟨_, rfl, rfl, Below.refl _ _, fun _ => hB⟩ | exact ⟨_, rfl, rfl, Below.refl _ _, hB⟩
      · have hf1 : 1 ≤ f := Nat.le_trans (by decide) hf.1
        have hB := hC (by omega)
        clear hf
        have hBz := hB.size
        go_wp2
        first | exact ⟨_, rfl, rfl, Below.refl _ _, fun _ => hB⟩ | exact ⟨_, rfl, rfl, Below.refl _ _, hB⟩
      · rw [show u 2 = _ from (by first | exact hd | exact hd.1 | exact hd.2 | exact hd.2.1 | exact hd.2.2 | exact hd.2.2.1 | exact hd.2.2.2 | exact hd.2.2.2.1 | exact hd.2.2.2.2)]
        have hf1 : 1 ≤ f := Nat.le_trans (by decide) hf.1
        have hB := hC (by omega)
        clear hf
        have hBz := hB.size
        have e0 := (hB.cell (p := ⟨w.heap.size + 1, 0, none⟩) h5).trans d50
        go_wp2
        first | exact ⟨_, rfl, rfl, Below.refl _ _, fun _ => hB⟩ | exact ⟨_, rfl, rfl, Below.refl _ _, hB⟩
      · rw [show u 1 = _ from (by first | exact hd | exact hd.1 | exact hd.2 | exact hd.2.1 | exact hd.2.2 | exact hd.2.2.1 | exact hd.2.2.2 | exact hd.2.2.2.1 | exact hd.2.2.2.2), show u 3 = _ from (by first | exact hd | exact hd.1 | exact hd.2 | exact hd.2.1 | exact hd.2.2 | exact hd.2.2.1 | exact hd.2.2.2 | exact hd.2.2.2.1 | exact hd.2.2.2.2)]
        have hf1 : 1 ≤ f := Nat.le_trans (by decide) hf.1
        have hB := hC (by omega)
        clear hf
        have hBz := hB.size
        have hw : IntKind.i64.wrap (N1 + N2) = N1 + N2 := by rw [IntWalk.i64_in _ (by omega)]
        go_wp2
        first | exact ⟨_, rfl, rfl, Below.refl _ _, fun _ => hB⟩ | exact ⟨_, rfl, rfl, Below.refl _ _, hB⟩
      · rw [show u 4 = _ from (by first | exact hd | exact hd.1 | exact hd.2 | exact hd.2.1 | exact hd.2.2 | exact hd.2.2.1 | exact hd.2.2.2 | exact hd.2.2.2.1 | exact hd.2.2.2.2)]
        have hf1 : 1 ≤ f := Nat.le_trans (by decide) hf.1
        have hB := hC (by omega)
        clear hf
        have hBz := hB.size
        have hw : IntKind.i64.wrap (N1 + N2 - 1) = N := by rw [IntWalk.i64_in _ (by omega)]; omega
        go_wp2
        first | exact ⟨_, rfl, rfl, Below.refl _ _, fun _ => hB⟩ | exact ⟨_, rfl, rfl, Below.refl _ _, hB⟩
      · have hf1 : 1 ≤ f := Nat.le_trans (by decide) hf.1
        have hB := hC (by omega)
        clear hf
        have hBz := hB.size
        go_wp2
        first | exact ⟨_, rfl, rfl, Below.refl _ _, fun _ => hB⟩ | exact ⟨_, rfl, rfl, Below.refl _ _, hB⟩
      · rw [show u 6 = _ from (by first | exact hd | exact hd.1 | exact hd.2 | exact hd.2.1 | exact hd.2.2 | exact hd.2.2.1 | exact hd.2.2.2 | exact hd.2.2.2.1 | exact hd.2.2.2.2)]
        have hf1 : 1 ≤ f := Nat.le_trans (by decide) hf.1
        have hB := hC (by omega)
        clear hf
        have hBz := hB.size
        have e0 := (hB.cell (p := ⟨w.heap.size, 1, none⟩) h4).trans d41
        go_wp2
        first | exact ⟨_, rfl, rfl, Below.refl _ _, fun _ => hB⟩ | exact ⟨_, rfl, rfl, Below.refl _ _, hB⟩
      · rw [show u 7 = _ from (by first | exact hd | exact hd.1 | exact hd.2 | exact hd.2.1 | exact hd.2.2 | exact hd.2.2.1 | exact hd.2.2.2 | exact hd.2.2.2.1 | exact hd.2.2.2.2)]
        have hf1 : 1 ≤ f := Nat.le_trans (by decide) hf.1
        have hB := hC (by omega)
        clear hf
        have hBz := hB.size
        go_wp2_with fail
        refine (movedPipes_any _ ps 0 2 1 _ wx (hp.keep hB) (by omega) hbp (by omega) (by omega)).mono ?_
        rintro e wy ⟨r, rfl, hr, hby⟩
        rw [← HLs1.out] at hr
        go_wp2
        first | exact ⟨_, rfl, hr.mono hBz, hby, fun _ => hB.trans (hby.mono hBz)⟩ | exact ⟨_, rfl, hr.mono hBz, hby, hB.trans (hby.mono hBz)⟩
      · have hf1 : 1 ≤ f := Nat.le_trans (by decide) hf.1
        have hB := hC (by omega)
        clear hf
        have hBz := hB.size
        go_wp2
        first | exact ⟨_, rfl, rfl, Below.refl _ _, fun _ => hB⟩ | exact ⟨_, rfl, rfl, Below.refl _ _, hB⟩
      · rw [show u 9 = _ from (by first | exact hd | exact hd.1 | exact hd.2 | exact hd.2.1 | exact hd.2.2 | exact hd.2.2.1 | exact hd.2.2.2 | exact hd.2.2.2.1 | exact hd.2.2.2.2)]
        have hf1 : 1 ≤ f := Nat.le_trans (by decide) hf.1
        have hB := hC (by omega)
        clear hf
        have hBz := hB.size
        have e0 := (hB.cell (p := ⟨w.heap.size + 1, 1, none⟩) h5).trans d51
        go_wp2
        first | exact ⟨_, rfl, rfl, Below.refl _ _, fun _ => hB⟩ | exact ⟨_, rfl, rfl, Below.refl _ _, hB⟩
      · have hf1 : 1 ≤ f := Nat.le_trans (by decide) hf.1
        have hB := hC (by omega)
        clear hf
        have hBz := hB.size
        go_wp2
        first | exact ⟨_, rfl, rfl, Below.refl _ _, fun _ => hB⟩ | exact ⟨_, rfl, rfl, Below.refl _ _, hB⟩
      · rw [show u 11 = _ from (by first | exact hd | exact hd.1 | exact hd.2 | exact hd.2.1 | exact hd.2.2 | exact hd.2.2.1 | exact hd.2.2.2 | exact hd.2.2.2.1 | exact hd.2.2.2.2)]
        have hf1 : 1 ≤ f := Nat.le_trans (by decide) hf.1
        have hB := hC (by omega)
        clear hf
        have hBz := hB.size
        have e0 := (hB.cell (p := ⟨w.heap.size, 0, none⟩) h4).trans d40
        go_wp2
        first | exact ⟨_, rfl, rfl, Below.refl _ _, fun _ => hB⟩ | exact ⟨_, rfl, rfl, Below.refl _ _, hB⟩
      · rw [show u 12 = _ from (by first | exact hd | exact hd.1 | exact hd.2 | exact hd.2.1 | exact hd.2.2 | exact hd.2.2.1 | exact hd.2.2.2 | exact hd.2.2.2.1 | exact hd.2.2.2.2)]
        have hf1 : 1 ≤ f := Nat.le_trans (by decide) hf.1
        have hB := hC (by omega)
        clear hf
        have hBz := hB.size
        have hw : IntKind.i64.wrap (N1 - 1) = F := by rw [IntWalk.i64_in _ (by omega)]; omega
        go_wp2
        first | exact ⟨_, rfl, rfl, Below.refl _ _, fun _ => hB⟩ | exact ⟨_, rfl, rfl, Below.refl _ _, hB⟩
      · rw [show u 10 = _ from (by first | exact hd | exact hd.1 | exact hd.2 | exact hd.2.1 | exact hd.2.2 | exact hd.2.2.1 | exact hd.2.2.2 | exact hd.2.2.2.1 | exact hd.2.2.2.2), show u 13 = _ from (by first | exact hd | exact hd.1 | exact hd.2 | exact hd.2.1 | exact hd.2.2 | exact hd.2.2.1 | exact hd.2.2.2 | exact hd.2.2.2.1 | exact hd.2.2.2.2)]
        have hf1 : 1 ≤ f := Nat.le_trans (by decide) hf.1
        have hB := hC (by omega)
        clear hf
        have hBz := hB.size
        go_wp2_with fail
        refine (movedPipes_any _ qs 2 1 F _ wx (hq.keep hB) (by omega) hbq (by omega) (by omega)).mono ?_
        rintro e wy ⟨r, rfl, hr, hby⟩
        rw [← HLs2.out] at hr
        go_wp2
        first | exact ⟨_, rfl, hr.mono hBz, hby, fun _ => hB.trans (hby.mono hBz)⟩ | exact ⟨_, rfl, hr.mono hBz, hby, hB.trans (hby.mono hBz)⟩
      · have hf1 : 1 ≤ f := Nat.le_trans (by decide) hf.1
        have hB := hC (by omega)
        clear hf
        have hBz := hB.size
        have hP1 : Pipes wx W7.heap.size (u 8) L1 := (by first | exact hd.1 | exact hd.2)
        have hP2 : Pipes wx W7.heap.size (u 14) L2 := (by first | exact hd.1 | exact hd.2)
        obtain ⟨A1', c1', hv1, -, -, -, -⟩ := hP1.form
        obtain ⟨A2, c2, hv2, -, -, -, -⟩ := hP2.form
        rw [hll1] at hv1
        rw [hll2] at hv2
        rw [hv1] at hP1 ⊢
        rw [hv2] at hP2 ⊢
        clear hv1 hv2 hd
        go_wp2
        first | exact ⟨_, rfl, ⟨_, _, _, rfl, heap_alloc_new _ _, hP1.keep (by (repeat (first | (with_reducible assumption) | (with_reducible exact Below.refl _ _) | ((with_reducible refine Below.alloc ?_ ?hsz _); (case hsz => (first | omega | (simp; done) | (simp; omega) | (simp at *; omega)))) | ((with_reducible refine Below.setCell ?_ ?hsz _); (case hsz => (first | omega | (simp; done) | (simp; omega) | (simp at *; omega)))) | (with_reducible refine Below.drew ?_) | (with_reducible refine below_drewN ?_ _) | ((with_reducible refine Below.trans ?_ (Below.mono (by with_reducible assumption) ?hsz)); (case hsz => (first | omega | (simp; done) | (simp; omega) | (simp at *; omega))))))), hP2.keep (by (repeat (first | (with_reducible assumption) | (with_reducible exact Below.refl _ _) | ((with_reducible refine Below.alloc ?_ ?hsz _); (case hsz => (first | omega | (simp; done) | (simp; omega) | (simp at *; omega)))) | ((with_reducible refine Below.setCell ?_ ?hsz _); (case hsz => (first | omega | (simp; done) | (simp; omega) | (simp at *; omega)))) | (with_reducible refine Below.drew ?_) | (with_reducible refine below_drewN ?_ _) | ((with_reducible refine Below.trans ?_ (Below.mono (by with_reducible assumption) ?hsz)); (case hsz => (first | omega | (simp; done) | (simp; omega) | (simp at *; omega)))))))⟩, (Below.refl _ _).alloc (Nat.le_refl _) _, fun _ => hB.alloc hBz _⟩ | exact ⟨_, rfl, ⟨_, _, _, rfl, heap_alloc_new _ _, hP1.keep (by (repeat (first | (with_reducible assumption) | (with_reducible exact Below.refl _ _) | ((with_reducible refine Below.alloc ?_ ?hsz _); (case hsz => (first | omega | (simp; done) | (simp; omega) | (simp at *; omega)))) | ((with_reducible refine Below.setCell ?_ ?hsz _); (case hsz => (first | omega | (simp; done) | (simp; omega) | (simp at *; omega)))) | (with_reducible refine Below.drew ?_) | (with_reducible refine below_drewN ?_ _) | ((with_reducible refine Below.trans ?_ (Below.mono (by with_reducible assumption) ?hsz)); (case hsz => (first | omega | (simp; done) | (simp; omega) | (simp at *; omega))))))), hP2.keep (by (repeat (first | (with_reducible assumption) | (with_reducible exact Below.refl _ _) | ((with_reducible refine Below.alloc ?_ ?hsz _); (case hsz => (first | omega | (simp; done) | (simp; omega) | (simp at *; omega)))) | ((with_reducible refine Below.setCell ?_ ?hsz _); (case hsz => (first | omega | (simp; done) | (simp; omega) | (simp at *; omega)))) | (with_reducible refine Below.drew ?_) | (with_reducible refine below_drewN ?_ _) | ((with_reducible refine Below.trans ?_ (Below.mono (by with_reducible assumption) ?hsz)); (case hsz => (first | omega | (simp; done) | (simp; omega) | (simp at *; omega)))))))⟩, (Below.refl _ _).alloc (Nat.le_refl _) _, hB.alloc hBz _⟩
      · have hf1 : 1 ≤ f := Nat.le_trans (by decide) hf.1
        have hB := hC (by omega)
        clear hf
        have hBz := hB.size
        obtain ⟨gl, s1, s2, h10, hh, hP1, hP2⟩ : ∃ g s s', u 15 = .slice (some ⟨g, 0, none⟩) 2 2 ∧ wx.heap[g]? = some (.cells #[s, s'] 23 (0, 0)) ∧ Pipes wx W7.heap.size s L1 ∧ Pipes wx W7.heap.size s' L2 := (by first | exact hd | exact hd.1 | exact hd.2)
        rw [h10]
        have hsrcs := twoPipes hh hP1 hP2
        go_wp2_with fail
        refine (concatPipe_any _ 2 _ _ wx hsrcs (by omega) (by simp; omega)).mono ?_
        rintro e wy ⟨r, rfl, hr, hby⟩
        have hr3 := catPipes hr
        go_wp2
        first | exact ⟨_, rfl, hr3.mono hBz, hby, fun _ => hB.trans (hby.mono hBz)⟩ | exact ⟨_, rfl, hr3.mono hBz, hby, hB.trans (hby.mono hBz)⟩
      · rw [show u 5 = _ from (by first | exact hd | exact hd.1 | exact hd.2 | exact hd.2.1 | exact hd.2.2 | exact hd.2.2.1 | exact hd.2.2.2 | exact hd.2.2.2.1 | exact hd.2.2.2.2)]
        have hf1 : 1 ≤ f := Nat.le_trans (by decide) hf.1
        have hB := hC (by omega)
        clear hf
        have hBz := hB.size
        have hP3 : Pipes wx W7.heap.size (u 16) (L1 ++ L2) := (by first | exact hd.1 | exact hd.2)
        obtain ⟨A3, c3, hv3, -, -, -, -⟩ := hP3.form
        obtain ⟨l3, hl3⟩ : ∃ l, (L1 ++ L2).length = l := ⟨_, rfl⟩
        rw [hl3] at hv3
        rw [hv3] at hP3 ⊢
        clear hl3 hv3 hd
        go_wp2
        first | exact ⟨_, rfl, ⟨_, rfl, hP3⟩, Below.refl _ _, fun _ => hB⟩ | exact ⟨_, rfl, ⟨_, rfl, hP3⟩, Below.refl _ _, hB⟩
      · have hf2 := hf.2
        have hB := hC (by omega)
        clear hf
        have hBz := hB.size
        obtain ⟨s9, h12, hP3⟩ : ∃ s9, u 17 = .agg #[.int .i64 N, s9] ∧ Pipes wx W7.heap.size s9 (L1 ++ L2) := (by first | exact hd | exact hd.1 | exact hd.2)
        obtain ⟨A3, c3, hv3, -, -, -, -⟩ := hP3.form
        obtain ⟨l3, hl3⟩ : ∃ l, (L1 ++ L2).length = l := ⟨_, rfl⟩
        rw [hl3] at hv3
        rw [hv3] at hP3 h12
        rw [h12]
        clear hl3 hv3 h12 hd
        have e6 := (hB.cell (p := ⟨w.heap.size + 1 + 1, 0, none⟩) h6).trans d60
        have e7 := (hB.cell (p := ⟨w.heap.size + 1 + 1, 1, none⟩) h6).trans d61
        have k6 := (hB.frozen (p := ⟨w.heap.size + 1 + 1, 0, none⟩) h6).trans f60
        have k7 := (hB.frozen (p := ⟨w.heap.size + 1 + 1, 1, none⟩) h6).trans f61
        have hgx : w.heap.size + 1 + 1 < wx.heap.size := by omega
        go_wp2
        exact ⟨undef, rfl, ⟨rfl, _, _, hB, hP3, rfl⟩, (if_pos rfl ▸ trivial : (if (18 : Nat) = 18 then True else _)), fun h => absurd h (by have := Nat.le_trans hf2 (by decide : _ ≤ 0); omega)⟩
    · intro u f wx hC hfin
      simp only [fillEnd, fillF, Act.put, List.setIfInBounds_toArray, List.set_cons_succ, List.set_cons_zero]
      obtain ⟨-, w9, s9, hb9, hP9, hw9⟩ := hfin 18 (by decide) (by decide)
      subst hw9
      clear hfin hC
      have hz9 := hb9.size
      have hb10 : Below w.heap.size w ((w9.setCell ⟨w.heap.size + 1 + 1, 0, none⟩ (.int .i64 N)).setCell ⟨w.heap.size + 1 + 1, 1, none⟩ s9) := ((hb7.trans (hb9.mono (by omega))).setCell (p := ⟨w.heap.size + 1 + 1, 0, none⟩) (by omega) _).setCell (p := ⟨w.heap.size + 1 + 1, 1, none⟩) (by omega) _
      obtain ⟨A9, c9, rfl, -, -, -, -⟩ := hP9.form
      have hP10 : Pipes ((w9.setCell ⟨w.heap.size + 1 + 1, 0, none⟩ (.int .i64 N)).setCell ⟨w.heap.size + 1 + 1, 1, none⟩ (.slice A9 (L1 ++ L2).length c9)) w.heap.size (.slice A9 (L1 ++ L2).length c9) (L1 ++ L2) := ((hP9.setLow (by omega)).setLow (by omega)).mono (by omega)
      have q6 := (hb9.cell (p := ⟨w.heap.size + 1 + 1, 0, none⟩) h6).trans d60
      have q7 := (hb9.cell (p := ⟨w.heap.size + 1 + 1, 1, none⟩) h6).trans d61
      obtain ⟨l9, hl9⟩ : ∃ l9, (L1 ++ L2).length = l9 := ⟨_, rfl⟩
      rw [hl9] at hP10 hb10 hP9 ⊢
      clear hP9 hb9 hl9
      have HF := Lib.hid (And.intro hP10 hb10)
      clear hP10 hb10
      go_wp2
      refine bodyPost_ret (v := .agg #[.int .i64 N, .slice A9 l9 c9]) (by simp [results, Try.results103, go_sem, q6, q7]) rfl ⟨_, rfl, HF.out.1, HF.out.2⟩

end Go.Proofs.Ytobbeofibkpbaaa

/- The net of a term, plain: it is free, and its least room is what the term carries. -/
namespace Go.Proofs.Ytobbeofibkpbaaa
open Go.RowKit

theorem placeT_in (T : Tm) : ∀ (N f t n : Int), T.good → (0 ≤ f ∧ f < n) → (0 ≤ t ∧ t < n) → f ≠ t → n + T.thens ≤ N →
    ∀ p ∈ placeT T f t n, pipeOkB N p.fr p.to p.le p.mo p.co = true ∧ p.le = 0 := by
  induction T with
  | pipe h p =>
    intro N f t n hg hf ht hne hN q hq
    obtain ⟨h1, h2⟩ := hg
    simp only [placeT, List.mem_singleton] at hq
    subst hq
    refine ⟨?_, rfl⟩
    simp only [pipeOkB, withinB, Bool.and_eq_true, decide_eq_true_eq]
    simp only [Tm.thens] at hN
    refine ⟨⟨⟨⟨⟨⟨⟨?_, ?_⟩, ?_, ?_⟩, hne⟩, ?_⟩, ?_⟩, ?_⟩, ?_, ?_⟩ <;> omega
  | two s a b iha ihb =>
    intro N f t n hg hf ht hne hN q hq
    simp only [Tm.thens] at hN
    cases s
    · simp only [placeT, Bool.false_eq_true, if_false, List.mem_append] at hq hN
      rcases hq with hq | hq
      · exact iha N f n (n + 1) hg.1 ⟨hf.1, by omega⟩ ⟨by omega, by omega⟩ (by omega) (by omega) q hq
      · exact ihb N n t (n + 1 + a.thens) hg.2 ⟨by omega, by omega⟩ ⟨ht.1, by omega⟩ (by omega) (by omega) q hq
    · simp only [placeT, if_true, List.mem_append] at hq hN
      rcases hq with hq | hq
      · exact iha N f t n hg.1 hf ht hne (by omega) q hq
      · exact ihb N f t (n + a.thens) hg.2 ⟨hf.1, by omega⟩ ⟨ht.1, by omega⟩ hne (by omega) q hq

theorem ok_ends {N : Int} {p : Pp} (h : pipeOkB N p.fr p.to p.le p.mo p.co = true) : (0 ≤ p.fr ∧ p.fr < N) ∧ (0 ≤ p.to ∧ p.to < N) := by
  simp only [pipeOkB, withinB, Bool.and_eq_true, decide_eq_true_eq] at h
  omega

theorem net_free (T : Tm) (hg : T.good) (h7 : T.pipes ≤ 7) (h3 : T.thens ≤ 3) : freeB ((T.thens : Int) + 2) (placeT T 0 1 2) = true := by
  have h := placeT_in T ((T.thens : Int) + 2) 0 1 2 hg (by omega) (by omega) (by omega) (by omega)
  simp only [freeB, netOkB, withinB, Bool.and_eq_true, decide_eq_true_eq, List.all_eq_true]
  exact ⟨⟨⟨⟨by omega, by omega⟩, by rw [placeT_len]; exact h7⟩, fun p hp => (h p hp).1⟩, fun p hp => (h p hp).2⟩

def roomS (S : Int → Bool) (ps : List Pp) : Int := (ps.map fun p => if S p.fr && !S p.to then p.mo else 0).sum
theorem roomS_append (S : Int → Bool) (ps qs : List Pp) : roomS S (ps ++ qs) = roomS S ps + roomS S qs := by simp [roomS]
theorem roomS_congr {S S' : Int → Bool} : ∀ {ps : List Pp}, (∀ p ∈ ps, S p.fr = S' p.fr ∧ S p.to = S' p.to) → roomS S ps = roomS S' ps
  | [], _ => rfl
  | p :: ps, h => by
    have h1 := h p (by simp)
    have ih := roomS_congr (S := S) (S' := S') (ps := ps) fun q hq => h q (by simp [hq])
    simp only [roomS, List.map_cons, List.sum_cons, h1.1, h1.2] at ih ⊢
    rw [ih]
theorem room_fun (s : Int) : ∀ {ps : List Pp}, (∀ p ∈ ps, p.le = 0) → room s ps = roomS (bitB s) ps
  | [], _ => rfl
  | p :: ps, h => by
    have h1 := h p (by simp)
    have ih := room_fun s (ps := ps) fun q hq => h q (by simp [hq])
    rw [room_cons, ih]
    simp only [roomS, List.map_cons, List.sum_cons, acT, partsB, h1]
    congr 1
    split
    · rfl
    · split <;> rfl

theorem roomS_low (T : Tm) : ∀ (S : Int → Bool) (f t n : Int), T.good → S f = true → S t = false → T.carry ≤ roomS S (placeT T f t n) := by
  induction T with
  | pipe h p =>
    intro S f t n _ hf ht
    simp [placeT, roomS, Tm.carry, hf, ht]
  | two s a b iha ihb =>
    intro S f t n hg hf ht
    have ca := a.carry_bd hg.1; have cb := b.carry_bd hg.2
    have nn : ∀ (U : Tm), U.good → ∀ (f t n : Int), 0 ≤ roomS S (placeT U f t n) := by
      intro U
      induction U with
      | pipe h p => intro hU f t n; obtain ⟨h1, -⟩ := hU; simp only [placeT, roomS, List.map_cons, List.map_nil, List.sum_cons, List.sum_nil]; split <;> omega
      | two s c d ihc ihd =>
        intro hU f t n
        cases s
        · simp only [placeT, Bool.false_eq_true, if_false, roomS_append]
          have := ihc hU.1 f n (n + 1); have := ihd hU.2 n t (n + 1 + c.thens); omega
        · simp only [placeT, if_true, roomS_append]
          have := ihc hU.1 f t n; have := ihd hU.2 f t (n + c.thens); omega
    cases s
    · simp only [placeT, Bool.false_eq_true, if_false, roomS_append, Tm.carry]
      cases hm : S n
      · have h1 := iha S f n (n + 1) hg.1 hf hm
        have h2 := nn b hg.2 n t (n + 1 + a.thens)
        omega
      · have h1 := ihb S n t (n + 1 + a.thens) hg.2 hm ht
        have h2 := nn a hg.1 f n (n + 1)
        omega
    · simp only [placeT, if_true, roomS_append, Tm.carry]
      have h1 := iha S f t n hg.1 hf ht
      have h2 := ihb S f t (n + a.thens) hg.2 hf ht
      omega

theorem roomS_same (T : Tm) : ∀ (S : Int → Bool) (v : Bool) (f t n : Int), S f = v → S t = v → (∀ x, n ≤ x → x < n + T.thens → S x = v) → roomS S (placeT T f t n) = 0 := by
  induction T with
  | pipe h p => intro S v f t n hf ht _; simp [placeT, roomS, hf, ht]
  | two s a b iha ihb =>
    intro S v f t n hf ht hx
    simp only [Tm.thens] at hx
    cases s
    · simp only [placeT, Bool.false_eq_true, if_false, roomS_append] at hx ⊢
      have hn : S n = v := hx n (by omega) (by omega)
      rw [iha S v f n (n + 1) hf hn (fun x h1 h2 => hx x (by omega) (by omega)), ihb S v n t (n + 1 + a.thens) hn ht (fun x h1 h2 => hx x (by omega) (by omega))]
      rfl
    · simp only [placeT, if_true, roomS_append] at hx ⊢
      rw [iha S v f t n hf ht (fun x h1 h2 => hx x (by omega) (by omega)), ihb S v f t (n + a.thens) hf ht (fun x h1 h2 => hx x (by omega) (by omega))]
      rfl

theorem roomS_cut (T : Tm) : ∀ (S0 : Int → Bool) (f t n : Int), T.good → (0 ≤ f ∧ f < n) → (0 ≤ t ∧ t < n) → f ≠ t → S0 f = true → S0 t = false →
    ∃ S : Int → Bool, (∀ x, (x < n ∨ n + T.thens ≤ x) → S x = S0 x) ∧ roomS S (placeT T f t n) = T.carry := by
  induction T with
  | pipe h p => intro S0 f t n _ hf ht _ h1 h2; exact ⟨S0, fun _ _ => rfl, by simp [placeT, roomS, h1, h2, Tm.carry]⟩
  | two s a b iha ihb =>
    intro S0 f t n hg hf ht hne h1 h2
    cases s
    · have hpa := placeT_in a (n + 1 + a.thens) f n (n + 1) hg.1 ⟨hf.1, by omega⟩ ⟨by omega, by omega⟩ (by omega) (by omega)
      simp only [placeT, Bool.false_eq_true, if_false, roomS_append, Tm.carry, Tm.thens]
      by_cases hc : a.carry ≤ b.carry
      · obtain ⟨S, hS, hr⟩ := iha (fun x => if x = n then false else S0 x) f n (n + 1) hg.1 ⟨hf.1, by omega⟩ ⟨by omega, by omega⟩ (by omega) (by rw [if_neg (by omega)]; exact h1) (by rw [if_pos rfl])
        refine ⟨fun x => if n + 1 + a.thens ≤ x ∧ x < n + 1 + a.thens + b.thens then false else S x, fun x hx => ?_, ?_⟩
        · dsimp only
          rw [if_neg (by omega), hS x (by omega), if_neg (by omega)]
        · rw [roomS_congr (S' := S) (fun p hp => ?_), hr, roomS_same b _ false n t (n + 1 + a.thens) ?_ ?_ ?_]
          · omega
          · rw [if_neg (by omega), hS n (by omega), if_pos rfl]
          · rw [if_neg (by omega), hS t (by omega), if_neg (by omega)]
            exact h2
          · intro x x1 x2
            (try dsimp only)
            rw [if_pos ⟨x1, x2⟩]
          · have he := ok_ends (hpa p hp).1
            (try dsimp only)
            exact ⟨by rw [if_neg (by omega)], by rw [if_neg (by omega)]⟩
      · obtain ⟨S, hS, hr⟩ := ihb (fun x => if n ≤ x ∧ x < n + 1 + a.thens then true else S0 x) n t (n + 1 + a.thens) hg.2 ⟨by omega, by omega⟩ ⟨ht.1, by omega⟩ (by omega) (by rw [if_pos (by omega)]) (by rw [if_neg (by omega)]; exact h2)
        refine ⟨S, fun x hx => ?_, ?_⟩
        · rw [hS x (by omega)]
          (try dsimp only)
          rw [if_neg (by omega)]
        · rw [hr, roomS_same a S true f n (n + 1) ?_ ?_ ?_]
          · omega
          · rw [hS f (by omega)]
            (try dsimp only)
            rw [if_neg (by omega)]
            exact h1
          · rw [hS n (by omega)]
            (try dsimp only)
            rw [if_pos (by omega)]
          · intro x x1 x2
            rw [hS x (by omega)]
            (try dsimp only)
            rw [if_pos (by omega)]
    · have hpa := placeT_in a (n + a.thens) f t n hg.1 hf ht hne (by omega)
      simp only [placeT, if_true, roomS_append, Tm.carry, Tm.thens]
      obtain ⟨S, hS, hr⟩ := iha S0 f t n hg.1 hf ht hne h1 h2
      obtain ⟨S', hS', hr'⟩ := ihb S f t (n + a.thens) hg.2 ⟨hf.1, by omega⟩ ⟨ht.1, by omega⟩ hne (by rw [hS f (by omega)]; exact h1) (by rw [hS t (by omega)]; exact h2)
      refine ⟨S', fun x hx => ?_, ?_⟩
      · rw [hS' x (by omega), hS x (by omega)]
      · rw [hr', roomS_congr (S' := S) (fun p hp => ?_), hr]
        have he := ok_ends (hpa p hp).1
        exact ⟨hS' _ (by omega), hS' _ (by omega)⟩

theorem tnet_ends (T : Tm) (hg : T.good) (h7 : T.pipes ≤ 7) (h3 : T.thens ≤ 3) : endsB ((T.thens : Int) + 2) (placeT T 0 1 2) 0 1 = true := by
  have h := net_free T hg h7 h3
  simp only [freeB, Bool.and_eq_true] at h
  simp [endsB, h.1, withinB] <;> omega

theorem net_carry (T : Tm) (hg : T.good) (h7 : T.pipes ≤ 7) (h3 : T.thens ≤ 3) : leastI ((T.thens : Int) + 2) (placeT T 0 1 2) 0 1 = T.carry := by
  have he := tnet_ends T hg h7 h3
  have hp := placeT_in T ((T.thens : Int) + 2) 0 1 2 hg (by omega) (by omega) (by omega) (by omega)
  have hn : ((T.thens : Int) + 2).toNat = T.thens + 2 := by omega
  apply Int.le_antisymm
  · obtain ⟨S, hS, hr⟩ := roomS_cut T (fun x => decide (x = 0)) 0 1 2 hg (by omega) (by omega) (by omega) (by simp) (by simp)
    have hb : ∀ v : Int, 0 ≤ v → v < (T.thens : Int) + 2 → bitB (sideOf (fun k => S (k : Int)) (T.thens + 2)) v = S v := by
      intro v h0 h1
      obtain ⟨k, rfl⟩ : ∃ k : Nat, v = (k : Int) := ⟨v.toNat, by omega⟩
      rw [sideOf_bit _ (by omega) (by omega)]
      simp; intro h; omega
    have h0 : S 0 = true := by rw [hS 0 (by omega)]; rfl
    have h1 : S 1 = false := by rw [hS 1 (by omega)]; rfl
    have hin := sideOf_in (fun k => S (k : Int)) (T.thens + 2)
    have hl := least_le (n := (T.thens : Int) + 2) (ps := placeT T 0 1 2) (a := 0) (b := 1) hin.1 (by rw [hn]; exact hin.2) (by rw [partsB, hb 0 (by omega) (by omega), hb 1 (by omega) (by omega), h0, h1]; rfl)
    rw [room_fun _ (fun p h => (hp p h).2), roomS_congr (S' := S) (fun p h => ?_), hr] at hl
    · exact hl
    · have he := ok_ends (hp p h).1
      exact ⟨hb _ (by omega) (by omega), hb _ (by omega) (by omega)⟩
  · obtain ⟨s, -, -, h3, h4⟩ := least_at he
    rw [h4, room_fun _ (fun p h => (hp p h).2)]
    simp only [partsB, Bool.and_eq_true, Bool.not_eq_true'] at h3
    exact roomS_low T _ 0 1 2 hg h3.1 h3.2

def termNetN (ts : List Mk) : Int := if termB ts = true then (tmOf ts).thens + 2 else 0
def termNetL (ts : List Mk) : List Pp := if termB ts = true then placeT (tmOf ts) 0 1 2 else []
theorem termNet_yes {ts : List Mk} (h : termB ts = true) : termNetN ts = (tmOf ts).thens + 2 ∧ termNetL ts = placeT (tmOf ts) 0 1 2 := by simp [termNetN, termNetL, h]
theorem termNet_no {ts : List Mk} (h : termB ts = false) : termNetN ts = 0 ∧ termNetL ts = [] := by simp [termNetN, termNetL, h]
theorem termNet_great {ts : List Mk} (h : termB ts = true) : greatV (termNetN ts) (termNetL ts) 0 1 = carriesN ts ∧ leastR (termNetN ts) (termNetL ts) 0 1 = (carriesN ts, true) := by
  obtain ⟨-, hg, h7, h3⟩ := term_of h
  have h1 := net_free _ hg h7 h3
  have h2 := tnet_ends _ hg h7 h3
  have h4 := net_carry _ hg h7 h3
  rw [(termNet_yes h).1, (termNet_yes h).2]
  have h5 : carriesN ts = (tmOf ts).carry := by simp [carriesN, h]
  refine ⟨by rw [great_cut (by simp [greatB, h1, h2]), h4, h5], ?_⟩
  obtain ⟨h6, h8⟩ := leastR_one h2
  rw [h5, ← h4, ← h6, ← h8]

end Go.Proofs.Ytobbeofibkpbaaa

/- Contracts of the functions of chapter 8 in the program: the stack of nets, NetOfTerm. -/
namespace Go.Proofs.Ytobbeofibkpbaaa
open Go.RowKit

theorem net_info : (Try.prog.info? 25).map (fun i => (i.zero, i.size, i.bytes)) = some (some (.agg #[.int .i64 0, .slice none 0 0]), 2, 32) := by kernel_rfl

/-- the net of a part -/
def NetR (w : World) (b : Nat) (x y : Value) (U : Tm) : Prop := x = .int .i64 ((U.thens : Int) + 2) ∧ Pipes w b y (placeT U 0 1 2)
theorem netOk2 : PairOk 25 NetR where
  keep := fun h hb => ⟨h.1, h.2.keep hb⟩
  mono := fun h hb => ⟨h.1, h.2.mono hb⟩
  oth := fun h ho hg => ⟨h.1, own_oth h.2.1 (by decide) ho hg, h.2.2⟩
theorem net_bds (U : Tm) (hg : U.good) (h7 : U.pipes ≤ 7) : (placeT U 0 1 2).length ≤ 100 ∧ (2 ≤ (U.thens : Int) + 2 ∧ (U.thens : Int) + 2 ≤ 50) ∧ ∀ p ∈ placeT U 0 1 2, (0 ≤ p.fr ∧ p.fr ≤ 100) ∧ 0 ≤ p.to ∧ p.to ≤ 100 := by
  have h := U.thens_lt
  refine ⟨by rw [placeT_len]; omega, by omega, fun p hp => ?_⟩
  have := ok_ends (placeT_in U ((U.thens : Int) + 2) 0 1 2 hg (by omega) (by omega) (by omega) (by omega) p hp).1
  omega
theorem join_n {s : Bool} {a b : Tm} : joinN s ((a.thens : Int) + 2) ((b.thens : Int) + 2) = ((Tm.two s a b).thens : Int) + 2 := by
  cases s <;> simp [joinN, Tm.thens] <;> omega
theorem join_p {s : Bool} {a b : Tm} : joinP s ((a.thens : Int) + 2) (placeT a 0 1 2) (placeT b 0 1 2) = placeT (Tm.two s a b) 0 1 2 := by
  cases s
  · simp only [joinP, placeT, Bool.false_eq_true, if_false]
    rw [placeT_moved a _ _ _ _ _ _ (by omega), placeT_moved b _ _ _ _ _ _ (by omega)]
    simp [movedN]
    congr 1; omega
  · simp only [joinP, placeT, if_true]
    rw [placeT_moved b _ _ _ _ _ _ (by omega)]
    simp [movedN]

/-- what the operations yield -/
def builtNetV (W : World) (B g M c1 mb : Nat) (s : Bool) (v1 v2 : Value) (U : Tm) (fv : Value) : Nat → Value → World → Prop
  | 0, x, _ => x = .slice (some ⟨g, 0, none⟩) (M + 2) c1
  | 1, x, _ => x = .int .i64 ((M : Int) + 2 - 1)
  | 2, x, _ => x = .int .i64 (M : Int)
  | 3, x, _ => x = fv
  | 4, x, _ => x = .pointer (some ⟨mb, 0, none⟩)
  | 5, x, _ => x = .int .i64 (kindI s)
  | 6, x, _ => x = .slice (some ⟨g, 0, none⟩) (M + 2) c1
  | 7, x, _ => x = .int .i64 ((M : Int) + 2 - 1)
  | 8, x, _ => x = .int .i64 (M : Int)
  | 9, x, _ => x = .pointer (some ⟨g, M * 2, none⟩)
  | 10, x, _ => x = v1
  | 11, x, _ => x = .slice (some ⟨g, 0, none⟩) (M + 2) c1
  | 12, x, _ => x = .int .i64 ((M : Int) + 2 - 1)
  | 13, x, _ => x = .pointer (some ⟨g, (M + 1) * 2, none⟩)
  | 14, x, _ => x = v2
  | 15, x, w => ∃ a c, x = .agg #[a, c] ∧ NetR w B a c U
  | 16, x, _ => x = .pointer (some ⟨g, M * 2, none⟩)
  | 17, x, w => x = x ∧ ∃ w' a c, Below W.heap.size W w' ∧ NetR w' B a c U ∧ w = (w'.setCell ⟨g, M * 2, none⟩ a).setCell ⟨g, M * 2 + 1, none⟩ c
  | _, _, _ => True

set_option maxHeartbeats 8000000 in
set_option maxRecDepth 20000 in
theorem builtNet_any (T : Tm) (hgd : T.good) (h7 : T.pipes ≤ 7) (v : Value) (w : World) (h : ArgMarks w v T.marks) :
    Calls Try.prog 101 #[v, .func (Fn.func 102) #[] #[], .func (Fn.func 103) #[] #[]] w fun e w' => ∃ x y, e = .returned (.agg #[x, y]) ∧ NetR w' w.heap.size x y T ∧ Below w.heap.size w w' := by
  obtain ⟨A, c, rfl, hc1, hc2, hcell⟩ := h
  unfold maxLen at hc2
  have h13 := T.len13 h7
  obtain ⟨i0, hi0, hz0, hz1, hz2⟩ := info_parts net_info
  have HE := Lib.hid (stack_end T hgd)
  have HA := Lib.hid (fun k hk => stack_all T hgd k hk)
  have HN := Lib.hid (fun k hk => stack_next T hgd k hk)
  obtain ⟨L, hL⟩ : ∃ L, T.marks.length = L := ⟨_, rfl⟩
  rw [hL] at hc1 h13 ⊢
  have HL := Lib.hid hL
  clear hL
  obtain ⟨W0, hW0⟩ : ∃ W, W = w.alloc (.cells #[.int .i64 0, .slice none 0 0] 25) := ⟨_, rfl⟩
  have hb0 : Below w.heap.size w W0 := by rw [hW0]; (repeat (first | (with_reducible assumption) | (with_reducible exact Below.refl _ _) | ((with_reducible refine Below.alloc ?_ ?hsz _); (case hsz => (first | omega | (simp; done) | (simp; omega) | (simp at *; omega)))) | ((with_reducible refine Below.setCell ?_ ?hsz _); (case hsz => (first | omega | (simp; done) | (simp; omega) | (simp at *; omega)))) | (with_reducible refine Below.drew ?_) | (with_reducible refine below_drewN ?_ _) | ((with_reducible refine Below.trans ?_ (Below.mono (by with_reducible assumption) ?hsz)); (case hsz => (first | omega | (simp; done) | (simp; omega) | (simp at *; omega))))))
  have hw0 : W0.heap.size = w.heap.size + 1 := by rw [hW0]; simp
  have q0 : W0.cell? ⟨w.heap.size, 0, none⟩ = some (.int .i64 0) := by rw [hW0]; go_simp
  have q1 : W0.cell? ⟨w.heap.size, 1, none⟩ = some (.slice none 0 0) := by rw [hW0]; go_simp
  have k0 : W0.frozen? ⟨w.heap.size, 0, none⟩ = false := by rw [hW0]; go_simp
  have k1 : W0.frozen? ⟨w.heap.size, 1, none⟩ = false := by rw [hW0]; go_simp
  go_enter Try.func101, Try.ntmps101
  go_wp2
  rw [← hW0]
  go_loopw [13, 7] (fun i t wr => ∃ (k n c1 : Nat) (A1 : Option Addr), k ≤ L ∧ i = .int .i64 k ∧ t = .slice A1 n c1 ∧ (stackT T k).length = n ∧
      StkP 25 NetR wr W0.heap.size (.slice A1 n c1) n (stackT T k).reverse ∧ Below W0.heap.size W0 wr) (fun i _ _ => L - (intOf i).toNat)
  case atStart => exact ⟨0, 0, 0, none, by omega, rfl, rfl, rfl, ⟨[], rfl, rfl, World.ownsRow_nil _ _ _ 2, fun k hk => by simp [stackT, runT] at hk⟩, by (repeat (first | (with_reducible assumption) | (with_reducible exact Below.refl _ _) | ((with_reducible refine Below.alloc ?_ ?hsz _); (case hsz => (first | omega | (simp; done) | (simp; omega) | (simp at *; omega)))) | ((with_reducible refine Below.setCell ?_ ?hsz _); (case hsz => (first | omega | (simp; done) | (simp; omega) | (simp at *; omega)))) | (with_reducible refine Below.drew ?_) | (with_reducible refine below_drewN ?_ _) | ((with_reducible refine Below.trans ?_ (Below.mono (by with_reducible assumption) ?hsz)); (case hsz => (first | omega | (simp; done) | (simp; omega) | (simp at *; omega))))))⟩
  case round =>
    obtain ⟨k, n, c1, A1, hk, rfl, rfl, hn, hstk, hb⟩ := hrel
    have hbw : Below w.heap.size w wr := hb0.trans (hb.mono (by omega))
    obtain ⟨hcr, hfr, hzr⟩ := bcell hbw
    clear hbw
    have hzW := hb.size
    have hkT : k ≤ T.marks.length := by have := HL.out; omega
    obtain ⟨hga, hgm, hgn⟩ := HA.out k hkT
    have hnk : n ≤ 13 := by omega
    by_cases hlt : k < L
    · have hltT : k < T.marks.length := by have := HL.out; omega
      obtain ⟨g, o, rfl, hg2, d0, d1, d2⟩ := hcell k hltT
      have hgr : g < wr.heap.size := by omega
      rcases HN.out k hltT with ⟨h, p, hm, hh, hp, hs⟩ | ⟨s, a, b, r, hm, hst, hs⟩
      · rw [hm] at d0 d1 d2
        have HS := Lib.hid hs
        have HM := Lib.hid hn
        clear hm hs hn
        go_wp2_with fail
        refine (pipeNet_any 0 h p _).mono ?_
        rintro e w2 ⟨r, rfl, hr0, hb2⟩
        obtain ⟨A9, c9, rfl, -, -, -, -⟩ := hr0.form
        obtain ⟨n9, hn9⟩ : ∃ n9, [(⟨0, 1, 0, h, p⟩ : Pp)].length = n9 := ⟨_, rfl⟩
        rw [hn9] at hr0 ⊢
        clear hn9
        have hr : NetR _ _ _ _ (.pipe h p) := ⟨rfl, hr0⟩
        clear hr0
        have hstk2 := StkP.keep netOk2 hstk (w' := w2) (by (repeat (first | (with_reducible assumption) | (with_reducible exact Below.refl _ _) | ((with_reducible refine Below.alloc ?_ ?hsz _); (case hsz => (first | omega | (simp; done) | (simp; omega) | (simp at *; omega)))) | ((with_reducible refine Below.setCell ?_ ?hsz _); (case hsz => (first | omega | (simp; done) | (simp; omega) | (simp at *; omega)))) | (with_reducible refine Below.drew ?_) | (with_reducible refine below_drewN ?_ _) | ((with_reducible refine Below.trans ?_ (Below.mono (by with_reducible assumption) ?hsz)); (case hsz => (first | omega | (simp; done) | (simp; omega) | (simp at *; omega)))))))
        have hz2' := hb2.size
        simp at hz2'
        have hbw2 : Below W0.heap.size W0 w2 := by (repeat (first | (with_reducible assumption) | (with_reducible exact Below.refl _ _) | ((with_reducible refine Below.alloc ?_ ?hsz _); (case hsz => (first | omega | (simp; done) | (simp; omega) | (simp at *; omega)))) | ((with_reducible refine Below.setCell ?_ ?hsz _); (case hsz => (first | omega | (simp; done) | (simp; omega) | (simp at *; omega)))) | (with_reducible refine Below.drew ?_) | (with_reducible refine below_drewN ?_ _) | ((with_reducible refine Below.trans ?_ (Below.mono (by with_reducible assumption) ?hsz)); (case hsz => (first | omega | (simp; done) | (simp; omega) | (simp at *; omega))))))
        obtain ⟨cs, v1, v2, hown2, v4⟩ := hstk2
        have HV := Lib.hid (And.intro v1 (And.intro v2 v4))
        have HR := Lib.hid (netOk2.mono hr (show W0.heap.size ≤ _ by simp; omega))
        have hlit := heap_alloc_new w2 (.cells #[.int .i64 2, .slice A9 n9 c9] 25)
        clear hstk hcr hfr hb hb2 v1 v2 v4 hr
        go_wp2_with (first
          | (at_builtin
             go_must (refine wpList_append_src rfl _ _ 135 rfl W0.heap.size 25 i0 _ 2 32 Try.underlying135 hi0 hz0 hz1 hz2 rfl (by omega) _ _ n 1 (cs.flatMap pairC) [.int .i64 2, .slice A9 n9 c9] rfl rfl (own_keep hown2 (Nat.le_refl _) (by (repeat (first | (with_reducible assumption) | (with_reducible exact Below.refl _ _) | ((with_reducible refine Below.alloc ?_ ?hsz _); (case hsz => (first | omega | (simp; done) | (simp; omega) | (simp at *; omega)))) | ((with_reducible refine Below.setCell ?_ ?hsz _); (case hsz => (first | omega | (simp; done) | (simp; omega) | (simp at *; omega)))) | (with_reducible refine Below.drew ?_) | (with_reducible refine below_drewN ?_ _) | ((with_reducible refine Below.trans ?_ (Below.mono (by with_reducible assumption) ?hsz)); (case hsz => (first | omega | (simp; done) | (simp; omega) | (simp at *; omega)))))))) (lit_src hlit rfl (by simp [Value.oneCell'])) (by unfold maxLen; omega) (by omega) (by simp; omega) ?_)
             intro rn w7 hown7 hgr7 hat7))
        have hb7 : Below W0.heap.size W0 w7 := Below.grown (w := w2.alloc (.cells #[.int .i64 2, .slice A9 n9 c9] 25)) (by (repeat (first | (with_reducible assumption) | (with_reducible exact Below.refl _ _) | ((with_reducible refine Below.alloc ?_ ?hsz _); (case hsz => (first | omega | (simp; done) | (simp; omega) | (simp at *; omega)))) | ((with_reducible refine Below.setCell ?_ ?hsz _); (case hsz => (first | omega | (simp; done) | (simp; omega) | (simp at *; omega)))) | (with_reducible refine Below.drew ?_) | (with_reducible refine below_drewN ?_ _) | ((with_reducible refine Below.trans ?_ (Below.mono (by with_reducible assumption) ?hsz)); (case hsz => (first | omega | (simp; done) | (simp; omega) | (simp at *; omega))))))) hgr7 (by (first | omega | (simp; done) | (simp; omega) | (simp at *; omega))) (fun q hq => (hown2.lt q hq).1)
        have hb22 : Below w2.heap.size w2 (w2.alloc (.cells #[.int .i64 2, .slice A9 n9 c9] 25)) := by (repeat (first | (with_reducible assumption) | (with_reducible exact Below.refl _ _) | ((with_reducible refine Below.alloc ?_ ?hsz _); (case hsz => (first | omega | (simp; done) | (simp; omega) | (simp at *; omega)))) | ((with_reducible refine Below.setCell ?_ ?hsz _); (case hsz => (first | omega | (simp; done) | (simp; omega) | (simp at *; omega)))) | (with_reducible refine Below.drew ?_) | (with_reducible refine below_drewN ?_ _) | ((with_reducible refine Below.trans ?_ (Below.mono (by with_reducible assumption) ?hsz)); (case hsz => (first | omega | (simp; done) | (simp; omega) | (simp at *; omega))))))
        have hSn : StkP 25 NetR w7 W0.heap.size rn (n + 1) ((stackT T k).reverse ++ [.pipe h p]) :=
          StkP.snoc netOk2 HV.out.1 HV.out.2.1 (own_keep hown2 (Nat.le_refl _) hb22) (fun k hk hk' => netOk2.keep (HV.out.2.2 k hk hk') hb22) (netOk2.keep HR.out hb22) hgr7 hown7
        obtain ⟨An, cn, rfl, -, -, -⟩ := own_form hown7
        have HO := Lib.hid hSn
        clear hown7 hgr7 hat7 hSn hb22 hlit
        go_roundw
        case rel => exact ⟨k + 1, n + 1, cn, An, by omega, by go_num, rfl, by rw [HS.out]; simp; exact HM.out, by rw [HS.out]; simpa using HO.out, hb7⟩
        case measure => simp [intOf]; omega
      · rw [hm] at d0 d1 d2
        have hgA := hga a (by rw [hst]; simp)
        have hgB := hga b (by rw [hst]; simp)
        have ha7 := a.pipes_marks (hgm a (by rw [hst]; simp)) (by omega)
        have hb7' := b.pipes_marks (hgm b (by rw [hst]; simp)) (by omega)
        obtain ⟨M, hM⟩ : ∃ M, r.length = M := ⟨_, rfl⟩
        have hnM : n = M + 2 := by rw [← hn, hst]; simp; omega
        subst hnM
        rw [hst] at hstk
        have hstk0 := hstk
        obtain ⟨cs, v1, v2, hown, v4⟩ := hstk
        have hvl : cs.length = M + 2 := by omega
        obtain ⟨gs, rfl, hgs1, hgs2, hcn, hcm, hc9⟩ := own_at hown (by rw [pair_len]; omega)
        unfold maxLen at hcm
        have p0 := pair_at cs M (by omega)
        have p1 := pair_at cs (M + 1) (by omega)
        obtain ⟨f0, f1⟩ := hc9 _ _ p0.1
        obtain ⟨f2, f3⟩ := hc9 _ _ p0.2
        obtain ⟨f4, -⟩ := hc9 _ _ p1.1
        obtain ⟨f5, -⟩ := hc9 _ _ p1.2
        have hIa := v4 M (by omega) (by omega)
        have hIb := v4 (M + 1) (by omega) (by omega)
        have ea : ((b :: a :: r).reverse)[M]'(by simp; omega) = a := by subst hM; simp
        have eb : ((b :: a :: r).reverse)[M + 1]'(by simp; omega) = b := by subst hM; simp
        rw [ea] at hIa
        rw [eb] at hIb
        clear p0 p1
        generalize cs[M].1 = xa at *
        generalize cs[M].2 = ya at *
        generalize cs[M + 1].1 = xb at *
        generalize cs[M + 1].2 = yb at *
        obtain ⟨rfl, hPa⟩ := hIa
        obtain ⟨rfl, hPb⟩ := hIb
        obtain ⟨Aa, ca, rfl, -, -, -, -⟩ := hPa.form
        obtain ⟨Ab, cb, rfl, -, -, -, -⟩ := hPb.form
        obtain ⟨la, hla⟩ : ∃ l, (placeT a 0 1 2).length = l := ⟨_, rfl⟩
        obtain ⟨lb, hlb⟩ : ∃ l, (placeT b 0 1 2).length = l := ⟨_, rfl⟩
        rw [hla] at hPa f2
        rw [hlb] at hPb f5
        have hIa : NetR wr W0.heap.size (.int .i64 ((a.thens : Int) + 2)) (.slice Aa la ca) a := ⟨rfl, hPa⟩
        have hIb : NetR wr W0.heap.size (.int .i64 ((b.thens : Int) + 2)) (.slice Ab lb cb) b := ⟨rfl, hPb⟩
        have HBD := Lib.hid (And.intro (net_bds a hgA ha7) (net_bds b hgB hb7'))
        clear hPa hPb hla hlb
        have HS := Lib.hid hs
        have HM := Lib.hid hM
        have hk0 : (kindI s == 0) = false := by cases s <;> rfl
        clear hm hst hs hn hc9 hM v1 v2 v4 hvl ea eb hown
        obtain ⟨W7, hW7⟩ : ∃ W, W = wr.alloc (.cells #[.int .i64 (kindI s), .int .i64 0, .int .i64 0] 102) := ⟨_, rfl⟩
        have hbr : Below wr.heap.size wr W7 := by rw [hW7]; (repeat (first | (with_reducible assumption) | (with_reducible exact Below.refl _ _) | ((with_reducible refine Below.alloc ?_ ?hsz _); (case hsz => (first | omega | (simp; done) | (simp; omega) | (simp at *; omega)))) | ((with_reducible refine Below.setCell ?_ ?hsz _); (case hsz => (first | omega | (simp; done) | (simp; omega) | (simp at *; omega)))) | (with_reducible refine Below.drew ?_) | (with_reducible refine below_drewN ?_ _) | ((with_reducible refine Below.trans ?_ (Below.mono (by with_reducible assumption) ?hsz)); (case hsz => (first | omega | (simp; done) | (simp; omega) | (simp at *; omega))))))
        have hmb : wr.heap.size < W7.heap.size := by rw [hW7]; simp
        have hm0 : W7.cell? ⟨wr.heap.size, 0, none⟩ = some (.int .i64 (kindI s)) := by rw [hW7]; go_simp
        have HST := Lib.hid (StkP.keep netOk2 hstk0 hbr)
        replace hIa := netOk2.keep hIa hbr
        replace hIb := netOk2.keep hIb hbr
        have hb7 : Below W0.heap.size W0 W7 := hb.trans (hbr.mono hb.size)
        have hgl : gs < W7.heap.size := by omega
        have ha0 := (hbr.cell (p := ⟨gs, M * 2, none⟩) hgs2).trans f0
        have hfz0 := (hbr.frozen (p := ⟨gs, M * 2, none⟩) hgs2).trans f1
        have ha1 := (hbr.cell (p := ⟨gs, M * 2 + 1, none⟩) hgs2).trans f2
        have hfz1 := (hbr.frozen (p := ⟨gs, M * 2 + 1, none⟩) hgs2).trans f3
        have hb0 := (hbr.cell (p := ⟨gs, (M + 1) * 2, none⟩) hgs2).trans f4
        have hb1 := (hbr.cell (p := ⟨gs, (M + 1) * 2 + 1, none⟩) hgs2).trans f5
        clear hbr hb f0 f1 f2 f3 f4 f5 hstk0
        go_wp2_with fail
        rw [← hW7]
        clear hW7 hcr hfr
        refine wp_region_flowL 18 none [(0, 29), (1, 30), (2, 31), (3, 32), (4, 33), (5, 34), (6, 35), (7, 36), (8, 37), (9, 38), (10, 39), (11, 40), (12, 41), (13, 42), (14, 43), (15, 44), (16, 45)] (fun j x _ wx => builtNetV W7 W7.heap.size gs M c1 wr.heap.size s (.agg #[.int .i64 ((a.thens : Int) + 2), .slice Aa la ca]) (.agg #[.int .i64 ((b.thens : Int) + 2), .slice Ab lb cb]) (Tm.two s a b) (.func (Fn.func 103) #[] #[]) j x wx) (fun i wx wy => if i = 17 then True else Below wx.heap.size wx wy) (fun f wx => 1 ≤ f → Below W7.heap.size W7 wx) (by kernel_rfl) (by kernel_rfl) rfl (fun _ => ⟨rfl, rfl, rfl, Nat.le_refl _, fun _ _ => rfl⟩) ?_ ?_ ?_ ?_
        · intro i k hi hk hal x u wa wb hR hV
          have hk' : k < 18 := hk
          have hi' : i < 18 := hi
          by_cases n17 : k = 17
          · subst n17
            exfalso
            rcases i with _ | _ | _ | _ | _ | _ | _ | _ | _ | _ | _ | _ | _ | _ | _ | _ | _ | _ | i
            all_goals (first | omega | (revert hal; decide))
          · by_cases i17 : i = 17
            · subst i17
              rcases k with _ | _ | _ | _ | _ | _ | _ | _ | _ | _ | _ | _ | _ | _ | _ | _ | _ | _ | k
              all_goals first | exact hV | (exfalso; revert hal; decide) | (exfalso; omega)
            · have hbb : Below wa.heap.size wa wb := by simpa [i17] using hR
              rcases k with _ | _ | _ | _ | _ | _ | _ | _ | _ | _ | _ | _ | _ | _ | _ | _ | _ | _ | k
              all_goals first
                | exact hV
                | (exfalso; omega)
                | (obtain ⟨a, s, h1, h2⟩ := hV; exact ⟨a, s, h1, netOk2.keep h2 hbb⟩)
        · exact fun _ _ _ _ _ _ _ h => h
        · simp (maxSteps := 4000000) only [eachOp, fillF, List.setIfInBounds_toArray, List.set_cons_succ, List.set_cons_zero]
          refine ⟨?_, ?_, ?_, ?_, ?_, ?_, ?_, ?_, ?_, ?_, ?_, ?_, ?_, ?_, ?_, ?_, ?_, ?_, trivial⟩ <;> intro u f wx hC hd hf <;> (try simp [allV, useOf, Region.binds] at hd)
          · have hf1 : 1 ≤ f := Nat.le_trans (by decide) hf.1
            have hB := hC (by omega)
            clear hf
            have hBz := hB.size
            go_wp2
            first | exact ⟨_, rfl, rfl, Below.refl _ _, fun _ => hB⟩ | exact ⟨_, rfl, rfl, Below.refl _ _, hB⟩
          · have hf1 : 1 ≤ f := Nat.le_trans (by decide) hf.1
            have hB := hC (by omega)
            clear hf
            have hBz := hB.size
            go_wp2
            first | exact ⟨_, rfl, rfl, Below.refl _ _, fun _ => hB⟩ | exact ⟨_, rfl, rfl, Below.refl _ _, hB⟩
          · rw [show u 1 = _ from (by first | exact hd | exact hd.1 | exact hd.2 | exact hd.2.1 | exact hd.2.2 | exact hd.2.2.1 | exact hd.2.2.2 | exact hd.2.2.2.1 | exact hd.2.2.2.2)]
            have hf1 : 1 ≤ f := Nat.le_trans (by decide) hf.1
            have hB := hC (by omega)
            clear hf
            have hBz := hB.size
            have hw : IntKind.i64.wrap ((M : Int) + 2 - 1 - 1) = (M : Int) := by rw [IntWalk.i64_in _ (by omega)]; omega
            go_wp2
            first | exact ⟨_, rfl, rfl, Below.refl _ _, fun _ => hB⟩ | exact ⟨_, rfl, rfl, Below.refl _ _, hB⟩
          · have hf1 : 1 ≤ f := Nat.le_trans (by decide) hf.1
            have hB := hC (by omega)
            clear hf
            have hBz := hB.size
            go_wp2
            first | exact ⟨_, rfl, rfl, Below.refl _ _, fun _ => hB⟩ | exact ⟨_, rfl, rfl, Below.refl _ _, hB⟩
          · have hf1 : 1 ≤ f := Nat.le_trans (by decide) hf.1
            have hB := hC (by omega)
            clear hf
            have hBz := hB.size
            go_wp2
            first | exact ⟨_, rfl, rfl, Below.refl _ _, fun _ => hB⟩ | exact ⟨_, rfl, rfl, Below.refl _ _, hB⟩
          · rw [show u 4 = _ from (by first | exact hd | exact hd.1 | exact hd.2 | exact hd.2.1 | exact hd.2.2 | exact hd.2.2.1 | exact hd.2.2.2 | exact hd.2.2.2.1 | exact hd.2.2.2.2)]
            have hf1 : 1 ≤ f := Nat.le_trans (by decide) hf.1
            have hB := hC (by omega)
            clear hf
            have hBz := hB.size
            have e0 := (hB.cell (p := ⟨wr.heap.size, 0, none⟩) hmb).trans hm0
            go_wp2
            first | exact ⟨_, rfl, rfl, Below.refl _ _, fun _ => hB⟩ | exact ⟨_, rfl, rfl, Below.refl _ _, hB⟩
          · have hf1 : 1 ≤ f := Nat.le_trans (by decide) hf.1
            have hB := hC (by omega)
            clear hf
            have hBz := hB.size
            go_wp2
            first | exact ⟨_, rfl, rfl, Below.refl _ _, fun _ => hB⟩ | exact ⟨_, rfl, rfl, Below.refl _ _, hB⟩
          · have hf1 : 1 ≤ f := Nat.le_trans (by decide) hf.1
            have hB := hC (by omega)
            clear hf
            have hBz := hB.size
            go_wp2
            first | exact ⟨_, rfl, rfl, Below.refl _ _, fun _ => hB⟩ | exact ⟨_, rfl, rfl, Below.refl _ _, hB⟩
          · rw [show u 7 = _ from (by first | exact hd | exact hd.1 | exact hd.2 | exact hd.2.1 | exact hd.2.2 | exact hd.2.2.1 | exact hd.2.2.2 | exact hd.2.2.2.1 | exact hd.2.2.2.2)]
            have hf1 : 1 ≤ f := Nat.le_trans (by decide) hf.1
            have hB := hC (by omega)
            clear hf
            have hBz := hB.size
            have hw : IntKind.i64.wrap ((M : Int) + 2 - 1 - 1) = (M : Int) := by rw [IntWalk.i64_in _ (by omega)]; omega
            go_wp2
            first | exact ⟨_, rfl, rfl, Below.refl _ _, fun _ => hB⟩ | exact ⟨_, rfl, rfl, Below.refl _ _, hB⟩
          · rw [show u 6 = _ from (by first | exact hd | exact hd.1 | exact hd.2 | exact hd.2.1 | exact hd.2.2 | exact hd.2.2.1 | exact hd.2.2.2 | exact hd.2.2.2.1 | exact hd.2.2.2.2), show u 8 = _ from (by first | exact hd | exact hd.1 | exact hd.2 | exact hd.2.1 | exact hd.2.2 | exact hd.2.2.1 | exact hd.2.2.2 | exact hd.2.2.2.1 | exact hd.2.2.2.2)]
            have hf1 : 1 ≤ f := Nat.le_trans (by decide) hf.1
            have hB := hC (by omega)
            clear hf
            have hBz := hB.size
            go_wp2
            first | exact ⟨_, rfl, rfl, Below.refl _ _, fun _ => hB⟩ | exact ⟨_, rfl, rfl, Below.refl _ _, hB⟩
          · rw [show u 9 = _ from (by first | exact hd | exact hd.1 | exact hd.2 | exact hd.2.1 | exact hd.2.2 | exact hd.2.2.1 | exact hd.2.2.2 | exact hd.2.2.2.1 | exact hd.2.2.2.2)]
            have hf1 : 1 ≤ f := Nat.le_trans (by decide) hf.1
            have hB := hC (by omega)
            clear hf
            have hBz := hB.size
            have e0 := (hB.cell (p := ⟨gs, M * 2, none⟩) hgl).trans ha0
            have e1 := (hB.cell (p := ⟨gs, M * 2 + 1, none⟩) hgl).trans ha1
            go_wp2
            first | exact ⟨_, rfl, rfl, Below.refl _ _, fun _ => hB⟩ | exact ⟨_, rfl, rfl, Below.refl _ _, hB⟩
          · have hf1 : 1 ≤ f := Nat.le_trans (by decide) hf.1
            have hB := hC (by omega)
            clear hf
            have hBz := hB.size
            go_wp2
            first | exact ⟨_, rfl, rfl, Below.refl _ _, fun _ => hB⟩ | exact ⟨_, rfl, rfl, Below.refl _ _, hB⟩
          · have hf1 : 1 ≤ f := Nat.le_trans (by decide) hf.1
            have hB := hC (by omega)
            clear hf
            have hBz := hB.size
            go_wp2
            first | exact ⟨_, rfl, rfl, Below.refl _ _, fun _ => hB⟩ | exact ⟨_, rfl, rfl, Below.refl _ _, hB⟩
          · rw [show u 11 = _ from (by first | exact hd | exact hd.1 | exact hd.2 | exact hd.2.1 | exact hd.2.2 | exact hd.2.2.1 | exact hd.2.2.2 | exact hd.2.2.2.1 | exact hd.2.2.2.2), show u 12 = _ from (by first | exact hd | exact hd.1 | exact hd.2 | exact hd.2.1 | exact hd.2.2 | exact hd.2.2.1 | exact hd.2.2.2 | exact hd.2.2.2.1 | exact hd.2.2.2.2)]
            have hf1 : 1 ≤ f := Nat.le_trans (by decide) hf.1
            have hB := hC (by omega)
            clear hf
            have hBz := hB.size
            go_wp2
            first | exact ⟨_, rfl, rfl, Below.refl _ _, fun _ => hB⟩ | exact ⟨_, rfl, rfl, Below.refl _ _, hB⟩
          · rw [show u 13 = _ from (by first | exact hd | exact hd.1 | exact hd.2 | exact hd.2.1 | exact hd.2.2 | exact hd.2.2.1 | exact hd.2.2.2 | exact hd.2.2.2.1 | exact hd.2.2.2.2)]
            have hf1 : 1 ≤ f := Nat.le_trans (by decide) hf.1
            have hB := hC (by omega)
            clear hf
            have hBz := hB.size
            have e0 := (hB.cell (p := ⟨gs, (M + 1) * 2, none⟩) hgl).trans hb0
            have e1 := (hB.cell (p := ⟨gs, (M + 1) * 2 + 1, none⟩) hgl).trans hb1
            go_wp2
            first | exact ⟨_, rfl, rfl, Below.refl _ _, fun _ => hB⟩ | exact ⟨_, rfl, rfl, Below.refl _ _, hB⟩
          · rw [show u 3 = _ from (by first | exact hd | exact hd.1 | exact hd.2 | exact hd.2.1 | exact hd.2.2 | exact hd.2.2.1 | exact hd.2.2.2 | exact hd.2.2.2.1 | exact hd.2.2.2.2), show u 5 = _ from (by first | exact hd | exact hd.1 | exact hd.2 | exact hd.2.1 | exact hd.2.2 | exact hd.2.2.1 | exact hd.2.2.2 | exact hd.2.2.2.1 | exact hd.2.2.2.2), show u 10 = _ from (by first | exact hd | exact hd.1 | exact hd.2 | exact hd.2.1 | exact hd.2.2 | exact hd.2.2.1 | exact hd.2.2.2 | exact hd.2.2.2.1 | exact hd.2.2.2.2), show u 14 = _ from (by first | exact hd | exact hd.1 | exact hd.2 | exact hd.2.1 | exact hd.2.2 | exact hd.2.2.1 | exact hd.2.2.2 | exact hd.2.2.2.1 | exact hd.2.2.2.2)]
            have hf1 : 1 ≤ f := Nat.le_trans (by decide) hf.1
            have hB := hC (by omega)
            clear hf
            have hBz := hB.size
            go_wp2_with fail
            refine (joinedNets_any s ((a.thens : Int) + 2) ((b.thens : Int) + 2) _ _ (placeT a 0 1 2) (placeT b 0 1 2) _ _ _ (hIa.2.keep hB) (hIb.2.keep hB) HBD.out.1.1 HBD.out.2.1 HBD.out.1.2.1 HBD.out.2.2.1 HBD.out.1.2.2 HBD.out.2.2.2).mono ?_
            rintro e wy ⟨r, rfl, hr, hby⟩
            have hrj : NetR wy W7.heap.size (.int .i64 (joinN s ((a.thens : Int) + 2) ((b.thens : Int) + 2))) r (Tm.two s a b) := ⟨by rw [join_n], by rw [← join_p]; exact hr.mono hBz⟩
            obtain ⟨Aj, cj, hvj, -, -, -, -⟩ := hr.form
            generalize List.length _ = lj at hvj
            subst hvj
            generalize joinN s _ _ = nj at *
            clear hr
            go_wp2
            first | exact ⟨_, rfl, ⟨_, _, rfl, hrj⟩, hby, fun _ => hB.trans (hby.mono hBz)⟩ | exact ⟨_, rfl, ⟨_, _, rfl, hrj⟩, hby, hB.trans (hby.mono hBz)⟩
          · rw [show u 0 = _ from (by first | exact hd | exact hd.1 | exact hd.2 | exact hd.2.1 | exact hd.2.2 | exact hd.2.2.1 | exact hd.2.2.2 | exact hd.2.2.2.1 | exact hd.2.2.2.2), show u 2 = _ from (by first | exact hd | exact hd.1 | exact hd.2 | exact hd.2.1 | exact hd.2.2 | exact hd.2.2.1 | exact hd.2.2.2 | exact hd.2.2.2.1 | exact hd.2.2.2.2)]
            have hf1 : 1 ≤ f := Nat.le_trans (by decide) hf.1
            have hB := hC (by omega)
            clear hf
            have hBz := hB.size
            go_wp2
            first | exact ⟨_, rfl, rfl, Below.refl _ _, fun _ => hB⟩ | exact ⟨_, rfl, rfl, Below.refl _ _, hB⟩
          · rw [show u 16 = _ from (by first | exact hd | exact hd.1 | exact hd.2 | exact hd.2.1 | exact hd.2.2 | exact hd.2.2.1 | exact hd.2.2.2 | exact hd.2.2.2.1 | exact hd.2.2.2.2)]
            have hf2 := hf.2
            have hB := hC (by omega)
            clear hf
            have hBz := hB.size
            have e0 := (hB.cell (p := ⟨gs, M * 2, none⟩) hgl).trans ha0
            have e1 := (hB.frozen (p := ⟨gs, M * 2, none⟩) hgl).trans hfz0
            have e2 := (hB.cell (p := ⟨gs, M * 2 + 1, none⟩) hgl).trans ha1
            have e3 := (hB.frozen (p := ⟨gs, M * 2 + 1, none⟩) hgl).trans hfz1
            have hgx : gs < wx.heap.size := by omega
            obtain ⟨a9, s9, h15, hr15⟩ : ∃ a9 s9, u 15 = .agg #[a9, s9] ∧ NetR wx W7.heap.size a9 s9 (Tm.two s a b) := (by first | exact hd.1 | exact hd.2)
            rw [h15]
            obtain ⟨ha9, hp9⟩ := id hr15
            obtain ⟨A9, c9, hs9, -, -, -, -⟩ := hp9.form
            generalize List.length _ = l9 at hs9
            generalize ((Tm.two s a b).thens : Int) + 2 = n9 at ha9
            subst ha9
            subst hs9
            clear hp9 h15 hd
            go_wp2
            exact ⟨undef, rfl, ⟨rfl, _, _, _, hB, hr15, rfl⟩, (if_pos rfl ▸ trivial : (if (17 : Nat) = 17 then True else _)), fun h => absurd h (by have := Nat.le_trans hf2 (by decide : _ ≤ 0); omega)⟩
        · intro u f wx hC hfin
          simp only [fillEnd, fillF, Act.put, List.setIfInBounds_toArray, List.set_cons_succ, List.set_cons_zero]
          obtain ⟨-, w9, a9, s9, hb9, hr9, hw9⟩ := hfin 17 (by decide) (by decide)
          subst hw9
          clear hfin hC
          have hz9 := hb9.size
          have hST := (HST.out.keep netOk2 hb9).top netOk2 (M := M) (netOk2.mono hr9 (by omega : W0.heap.size ≤ W7.heap.size))
          have hb10 : Below W0.heap.size W0 ((w9.setCell ⟨gs, M * 2, none⟩ a9).setCell ⟨gs, M * 2 + 1, none⟩ s9) := by
            have : Below W0.heap.size W0 w9 := hb7.trans (hb9.mono (by omega))
            exact (this.setCell (by omega) _).setCell (by omega) _
          have HF := Lib.hid (And.intro hST hb10)
          clear hST hb10 hb9 hr9
          go_wp2
          go_roundw
          case rel =>
            refine ⟨k + 1, M + 1, c1, some ⟨gs, 0, none⟩, by omega, by go_num, rfl, by rw [HS.out]; simp; exact HM.out, ?_, HF.out.2⟩
            rw [HS.out]
            have h := HF.out.1
            have e : ((b :: a :: r).reverse).take M ++ [Tm.two s a b] = ((Tm.two s a b) :: r).reverse := by
              have := HM.out
              subst this
              simp
            rw [e] at h
            exact h
          case measure => simp [intOf]; omega
    · have hk2 : k = L := by omega
      subst hk2
      have hE : stackT T k = [T] := by rw [← HL.out]; exact HE.out
      have hn1 : n = 1 := by rw [← hn, hE]; rfl
      subst hn1
      rw [hE] at hstk
      obtain ⟨cs, v1, v2, hown, v4⟩ := hstk
      have hvl : cs.length = 1 := by rw [v1]; rfl
      obtain ⟨gs, rfl, hgs1, hgs2, hcn, hcm, hc9⟩ := own_at hown (by rw [pair_len]; omega)
      have p0 := pair_at cs 0 (by omega)
      rw [Nat.zero_mul, Nat.zero_add] at p0
      obtain ⟨f0, -⟩ := hc9 _ _ p0.1
      obtain ⟨f1, -⟩ := hc9 _ _ p0.2
      have hI := v4 0 (by simp) (by omega)
      have ea : ([T].reverse)[0]'(by simp) = T := by simp
      rw [ea] at hI
      clear p0
      generalize cs[0].1 = xa at *
      generalize cs[0].2 = ya at *
      obtain ⟨rfl, hP1⟩ := id hI
      obtain ⟨Aa, ca, hva, -, -, -, -⟩ := hP1.form
      generalize List.length _ = la at hva
      subst hva
      clear hP1
      have HI := Lib.hid hI
      have hl0 : w.heap.size < W0.heap.size := by omega
      have e0 := (hb.cell (p := ⟨w.heap.size, 0, none⟩) hl0).trans q0
      have e1 := (hb.cell (p := ⟨w.heap.size, 1, none⟩) hl0).trans q1
      have j0 := (hb.frozen (p := ⟨w.heap.size, 0, none⟩) hl0).trans k0
      have j1 := (hb.frozen (p := ⟨w.heap.size, 1, none⟩) hl0).trans k1
      have hgw : w.heap.size < wr.heap.size := by omega
      have hbF : Below w.heap.size w wr := hb0.trans (hb.mono (by omega))
      clear hown hc9 hn hE v1 v2 v4 hvl ea hI
      go_wp2
      refine bodyPost_ret (v := .agg #[.int .i64 ((T.thens : Int) + 2), .slice Aa la ca]) (by simp [results, Try.results101, go_sem, e0, e1]) rfl ⟨_, _, rfl, ⟨HI.out.1, ((HI.out.2.setLow hl0).setLow hl0).mono (Nat.le_of_lt hl0)⟩, (hbF.setCell (p := ⟨w.heap.size, 0, none⟩) (Nat.le_refl _) _).setCell (p := ⟨w.heap.size, 1, none⟩) (Nat.le_refl _) _⟩

set_option maxHeartbeats 1000000 in
set_option maxRecDepth 20000 in
theorem netOfTerm_any (v : Value) (ts : List Mk) (b : Nat) (w : World) (h : Marks w b v ts) :
    Calls Try.prog 46 #[v] w fun e w' => ∃ s, e = .returned (.tuple #[.agg #[.int .i64 (termNetN ts), s], .bool (termB ts)]) ∧ Pipes w' w.heap.size s (termNetL ts) ∧ Below w.heap.size w w' := by
  obtain ⟨A, c, rfl, hc1, hc2, -, -⟩ := h.form
  unfold maxLen at hc2
  have hwz : (w.alloc (.cells #[.int .i64 0, .slice none 0 0] 25)).heap.size = w.heap.size + 1 := by simp
  cases ht : termB ts
  · have HR := Lib.hid (termNet_no ht)
    go_enter Try.func46, Try.ntmps46
    go_wp2_with fail
    refine (termOk_any _ ts b _ (h.keep (by (repeat (first | (with_reducible assumption) | (with_reducible exact Below.refl _ _) | ((with_reducible refine Below.alloc ?_ ?hsz _); (case hsz => (first | omega | (simp; done) | (simp; omega) | (simp at *; omega)))) | ((with_reducible refine Below.setCell ?_ ?hsz _); (case hsz => (first | omega | (simp; done) | (simp; omega) | (simp at *; omega)))) | (with_reducible refine Below.drew ?_) | (with_reducible refine below_drewN ?_ _) | ((with_reducible refine Below.trans ?_ (Below.mono (by with_reducible assumption) ?hsz)); (case hsz => (first | omega | (simp; done) | (simp; omega) | (simp at *; omega))))))))).mono ?_
    rintro e w1 ⟨rfl, hb1⟩
    rw [ht]
    have hB1 : Below w.heap.size w w1 := by (repeat (first | (with_reducible assumption) | (with_reducible exact Below.refl _ _) | ((with_reducible refine Below.alloc ?_ ?hsz _); (case hsz => (first | omega | (simp; done) | (simp; omega) | (simp at *; omega)))) | ((with_reducible refine Below.setCell ?_ ?hsz _); (case hsz => (first | omega | (simp; done) | (simp; omega) | (simp at *; omega)))) | (with_reducible refine Below.drew ?_) | (with_reducible refine below_drewN ?_ _) | ((with_reducible refine Below.trans ?_ (Below.mono (by with_reducible assumption) ?hsz)); (case hsz => (first | omega | (simp; done) | (simp; omega) | (simp at *; omega))))))
    have hz1 := hb1.size
    rw [hwz] at hz1
    have hl1 : w.heap.size < w1.heap.size := by omega
    have q0 := (hb1.cell (p := ⟨w.heap.size, 0, none⟩) (by rw [hwz]; exact Nat.lt_succ_self _)).trans (show (w.alloc (.cells #[.int .i64 0, .slice none 0 0] 25)).cell? ⟨w.heap.size, 0, none⟩ = some (.int .i64 0) by go_simp)
    have q1 := (hb1.cell (p := ⟨w.heap.size, 1, none⟩) (by rw [hwz]; exact Nat.lt_succ_self _)).trans (show (w.alloc (.cells #[.int .i64 0, .slice none 0 0] 25)).cell? ⟨w.heap.size, 1, none⟩ = some (.slice none 0 0) by go_simp)
    have k0 := (hb1.frozen (p := ⟨w.heap.size, 0, none⟩) (by rw [hwz]; exact Nat.lt_succ_self _)).trans (show (w.alloc (.cells #[.int .i64 0, .slice none 0 0] 25)).frozen? ⟨w.heap.size, 0, none⟩ = false by go_simp)
    have k1 := (hb1.frozen (p := ⟨w.heap.size, 1, none⟩) (by rw [hwz]; exact Nat.lt_succ_self _)).trans (show (w.alloc (.cells #[.int .i64 0, .slice none 0 0] 25)).frozen? ⟨w.heap.size, 1, none⟩ = false by go_simp)
    clear hb1
    go_wp2
    refine bodyPost_ret (v := .tuple #[.agg #[.int .i64 0, .slice none 0 0], .bool false]) (by simp [results, Try.results46, go_sem, q0, q1]) rfl ⟨_, by rw [HR.out.1], by rw [HR.out.2]; exact Pipes_nil _ _, (hB1.setCell (p := ⟨w.heap.size, 0, none⟩) (Nat.le_refl _) _).setCell (p := ⟨w.heap.size, 1, none⟩) (Nat.le_refl _) _⟩
  · obtain ⟨hT, hg, h7, h3⟩ := term_of ht
    have HR := Lib.hid (termNet_yes ht)
    have HT := Lib.hid (And.intro hT (And.intro hg (And.intro h7 h3)))
    clear hT hg h7 h3
    go_enter Try.func46, Try.ntmps46
    go_wp2_with fail
    refine (termOk_any _ ts b _ (h.keep (by (repeat (first | (with_reducible assumption) | (with_reducible exact Below.refl _ _) | ((with_reducible refine Below.alloc ?_ ?hsz _); (case hsz => (first | omega | (simp; done) | (simp; omega) | (simp at *; omega)))) | ((with_reducible refine Below.setCell ?_ ?hsz _); (case hsz => (first | omega | (simp; done) | (simp; omega) | (simp at *; omega)))) | (with_reducible refine Below.drew ?_) | (with_reducible refine below_drewN ?_ _) | ((with_reducible refine Below.trans ?_ (Below.mono (by with_reducible assumption) ?hsz)); (case hsz => (first | omega | (simp; done) | (simp; omega) | (simp at *; omega))))))))).mono ?_
    rintro e w1 ⟨rfl, hb1⟩
    rw [ht]
    have hz1 := hb1.size
    rw [hwz] at hz1
    have hA := h.arg.keep (w' := w1) (by (repeat (first | (with_reducible assumption) | (with_reducible exact Below.refl _ _) | ((with_reducible refine Below.alloc ?_ ?hsz _); (case hsz => (first | omega | (simp; done) | (simp; omega) | (simp at *; omega)))) | ((with_reducible refine Below.setCell ?_ ?hsz _); (case hsz => (first | omega | (simp; done) | (simp; omega) | (simp at *; omega)))) | (with_reducible refine Below.drew ?_) | (with_reducible refine below_drewN ?_ _) | ((with_reducible refine Below.trans ?_ (Below.mono (by with_reducible assumption) ?hsz)); (case hsz => (first | omega | (simp; done) | (simp; omega) | (simp at *; omega)))))))
    have hA2 : ArgMarks w1 (.slice A ts.length c) (tmOf ts).marks := by rw [← HT.out.1]; exact hA
    have hB1 : Below w.heap.size w w1 := by (repeat (first | (with_reducible assumption) | (with_reducible exact Below.refl _ _) | ((with_reducible refine Below.alloc ?_ ?hsz _); (case hsz => (first | omega | (simp; done) | (simp; omega) | (simp at *; omega)))) | ((with_reducible refine Below.setCell ?_ ?hsz _); (case hsz => (first | omega | (simp; done) | (simp; omega) | (simp at *; omega)))) | (with_reducible refine Below.drew ?_) | (with_reducible refine below_drewN ?_ _) | ((with_reducible refine Below.trans ?_ (Below.mono (by with_reducible assumption) ?hsz)); (case hsz => (first | omega | (simp; done) | (simp; omega) | (simp at *; omega))))))
    have HA := Lib.hid hA2
    clear hA hA2
    go_wp2_with fail
    refine (builtNet_any (tmOf ts) HT.out.2.1 HT.out.2.2.1 _ _ (HA.out.keep (by (repeat (first | (with_reducible assumption) | (with_reducible exact Below.refl _ _) | ((with_reducible refine Below.alloc ?_ ?hsz _); (case hsz => (first | omega | (simp; done) | (simp; omega) | (simp at *; omega)))) | ((with_reducible refine Below.setCell ?_ ?hsz _); (case hsz => (first | omega | (simp; done) | (simp; omega) | (simp at *; omega)))) | (with_reducible refine Below.drew ?_) | (with_reducible refine below_drewN ?_ _) | ((with_reducible refine Below.trans ?_ (Below.mono (by with_reducible assumption) ?hsz)); (case hsz => (first | omega | (simp; done) | (simp; omega) | (simp at *; omega))))))))).mono ?_
    rintro e w2 ⟨x9, r, rfl, ⟨rfl, hr⟩, hb2⟩
    have hB2 : Below w.heap.size w w2 := hB1.trans (hb2.mono (by omega))
    have hl1 : w.heap.size < w2.heap.size := by have := hb2.size; omega
    have q0 := (hb2.cell (p := ⟨w.heap.size, 0, none⟩) (show w.heap.size < _ by omega)).trans ((hb1.cell (p := ⟨w.heap.size, 0, none⟩) (by rw [hwz]; exact Nat.lt_succ_self _)).trans (show (w.alloc (.cells #[.int .i64 0, .slice none 0 0] 25)).cell? ⟨w.heap.size, 0, none⟩ = some (.int .i64 0) by go_simp))
    have q1 := (hb2.cell (p := ⟨w.heap.size, 1, none⟩) (show w.heap.size < _ by omega)).trans ((hb1.cell (p := ⟨w.heap.size, 1, none⟩) (by rw [hwz]; exact Nat.lt_succ_self _)).trans (show (w.alloc (.cells #[.int .i64 0, .slice none 0 0] 25)).cell? ⟨w.heap.size, 1, none⟩ = some (.slice none 0 0) by go_simp))
    have k0 := (hb2.frozen (p := ⟨w.heap.size, 0, none⟩) (show w.heap.size < _ by omega)).trans ((hb1.frozen (p := ⟨w.heap.size, 0, none⟩) (by rw [hwz]; exact Nat.lt_succ_self _)).trans (show (w.alloc (.cells #[.int .i64 0, .slice none 0 0] 25)).frozen? ⟨w.heap.size, 0, none⟩ = false by go_simp))
    have k1 := (hb2.frozen (p := ⟨w.heap.size, 1, none⟩) (show w.heap.size < _ by omega)).trans ((hb1.frozen (p := ⟨w.heap.size, 1, none⟩) (by rw [hwz]; exact Nat.lt_succ_self _)).trans (show (w.alloc (.cells #[.int .i64 0, .slice none 0 0] 25)).frozen? ⟨w.heap.size, 1, none⟩ = false by go_simp))
    obtain ⟨A9, c9, rfl, -, -, -, -⟩ := hr.form
    generalize hN9 : ((tmOf ts).thens : Int) + 2 = n9
    have HN9 := Lib.hid hN9
    obtain ⟨l9, hl9⟩ : ∃ l, (placeT (tmOf ts) 0 1 2).length = l := ⟨_, rfl⟩
    rw [hl9] at hr ⊢
    have HF := Lib.hid hr
    clear hb1 hb2 hr hN9 hl9
    go_wp2
    refine bodyPost_ret (v := .tuple #[.agg #[.int .i64 n9, .slice A9 l9 c9], .bool true]) (by simp [results, Try.results46, go_sem, q0, q1]) rfl ⟨_, by rw [HR.out.1, ← HN9.out]; all_goals (first | rfl | (rw [Int.add_comm]; done)), by rw [HR.out.2]; exact ((HF.out.setLow (by (first | omega | (simp; done) | (simp; omega) | (simp at *; omega)))).setLow (by (first | omega | (simp; done) | (simp; omega) | (simp at *; omega)))).mono (by omega), (hB2.setCell (p := ⟨w.heap.size, 0, none⟩) (Nat.le_refl _) _).setCell (p := ⟨w.heap.size, 1, none⟩) (Nat.le_refl _) _⟩

end Go.Proofs.Ytobbeofibkpbaaa
