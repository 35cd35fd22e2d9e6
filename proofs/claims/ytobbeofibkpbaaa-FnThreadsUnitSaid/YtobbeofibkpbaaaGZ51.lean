/- Plain facts. -/
import Derived.Test.YtobbeofibkpbaaaGZ52
import Derived.Test.YtobbeofibkpbaaaGZ23
import Derived.Test.YtobbeofibkpbaaaGZ11
/- Contracts of the functions of chapter 1 in the program: remade, TurnedNet. -/
namespace Go.Proofs.Ytobbeofibkpbaaa
open Go.RowKit

theorem mapIdx_map (ps : List Pp) (f : Pp → Pp) : ps.mapIdx (fun _ p => f p) = ps.map f := by
  refine List.ext_getElem (by simp) fun k h1 h2 => ?_
  simp

set_option maxHeartbeats 1000000 in
set_option maxRecDepth 20000 in
theorem turnFn_any (k : Int) (p : Pp) (w : World) :
    Calls Try.prog 81 #[.int .i64 k, .agg #[.int .i64 p.fr, .int .i64 p.to, .int .i64 p.le, .int .i64 p.mo, .int .i64 p.co]] w fun e w' => e = .returned (.agg #[.int .i64 (turnP p).fr, .int .i64 (turnP p).to, .int .i64 (turnP p).le, .int .i64 (turnP p).mo, .int .i64 (turnP p).co]) ∧ Below w.heap.size w w' := by
  go_enter Try.func81, Try.ntmps81
  go_wp2
  refine bodyPost_ret (v := .agg #[.int .i64 (turnP p).fr, .int .i64 (turnP p).to, .int .i64 (turnP p).le, .int .i64 (turnP p).mo, .int .i64 (turnP p).co]) (by simp [results, Try.results81, go_sem, turnP]) rfl ⟨rfl, by (repeat (first | (with_reducible assumption) | (with_reducible exact Below.refl _ _) | ((with_reducible refine Below.alloc ?_ ?hsz _); (case hsz => (first | omega | (simp; done) | (simp; omega) | (simp at *; omega)))) | ((with_reducible refine Below.setCell ?_ ?hsz _); (case hsz => (first | omega | (simp; done) | (simp; omega) | (simp at *; omega)))) | (with_reducible refine Below.drew ?_) | (with_reducible refine below_drewN ?_ _) | ((with_reducible refine Below.trans ?_ (Below.mono (by with_reducible assumption) ?hsz)); (case hsz => (first | omega | (simp; done) | (simp; omega) | (simp at *; omega))))))⟩

/-- what the operations yield -/
def rmTurnedNetV (W : World) (ob gr L k : Nat) (fv : Value) (p q : Pp) : Nat → Value → World → Prop
  | 0, x, _ => x = .pointer (some ⟨ob, 1, none⟩)
  | 1, x, _ => x = .slice (some ⟨gr, 0, none⟩) L L
  | 2, x, _ => x = .int .i64 (k : Int)
  | 3, x, _ => x = fv
  | 4, x, _ => x = .int .i64 (k : Int)
  | 5, x, _ => x = .agg #[.int .i64 p.fr, .int .i64 p.to, .int .i64 p.le, .int .i64 p.mo, .int .i64 p.co]
  | 6, x, _ => x = .agg #[.int .i64 q.fr, .int .i64 q.to, .int .i64 q.le, .int .i64 q.mo, .int .i64 q.co]
  | 7, x, _ => x = .pointer (some ⟨gr, k * 5, none⟩)
  | 8, x, w => x = x ∧ ∃ w', Below W.heap.size W w' ∧ w = ((((w'.setCell ⟨gr, k * 5, none⟩ (.int .i64 q.fr)).setCell ⟨gr, k * 5 + 1, none⟩ (.int .i64 q.to)).setCell ⟨gr, k * 5 + 2, none⟩ (.int .i64 q.le)).setCell ⟨gr, k * 5 + 3, none⟩ (.int .i64 q.mo)).setCell ⟨gr, k * 5 + 4, none⟩ (.int .i64 q.co)
  | _, _, _ => True

set_option maxHeartbeats 8000000 in
set_option maxRecDepth 20000 in
theorem remTurned_any (n : Int) (v : Value) (ps : List Pp) (b : Nat) (w : World) (hp : Pipes w b v ps) (l7 : ps.length ≤ 7) :
    Calls Try.prog 80 #[.agg #[.int .i64 n, v], .func (Fn.func 81) #[] #[]] w fun e w' => ∃ s, e = .returned (.agg #[.int .i64 n, s]) ∧ Pipes w' w.heap.size s (ps.mapIdx (fun _ p => turnP p)) ∧ Below w.heap.size w w' := by
  have hp0 := hp
  obtain ⟨A, c, rfl, hc1, hc2, hs, hcell⟩ := hp.form
  unfold maxLen at hc2
  have hmk := fun W => run_make_pipes hs W
  obtain ⟨gf, hg⟩ : ∃ gf : Nat → Pp → Pp, gf = fun _ p => turnP p := ⟨_, rfl⟩
  rw [← hg]
  have HG := Lib.hid hg
  clear hg
  obtain ⟨w1, hw1⟩ : ∃ W, W = (w.alloc (.cells #[.int .i64 n, .slice A ps.length c] 25)).alloc (.cells #[.int .i64 0, .slice none 0 0] 25) := ⟨_, rfl⟩
  have hb1 : Below w.heap.size w w1 := by rw [hw1]; (repeat (first | (with_reducible assumption) | (with_reducible exact Below.refl _ _) | ((with_reducible refine Below.alloc ?_ ?hsz _); (case hsz => (first | omega | (simp; done) | (simp; omega) | (simp at *; omega)))) | ((with_reducible refine Below.setCell ?_ ?hsz _); (case hsz => (first | omega | (simp; done) | (simp; omega) | (simp at *; omega)))) | (with_reducible refine Below.drew ?_) | (with_reducible refine below_drewN ?_ _) | ((with_reducible refine Below.trans ?_ (Below.mono (by with_reducible assumption) ?hsz)); (case hsz => (first | omega | (simp; done) | (simp; omega) | (simp at *; omega))))))
  have hz1 : w.heap.size + 2 ≤ w1.heap.size := by rw [hw1]; simp
  have s00 : w.heap.size < w1.heap.size := by omega
  have s01 : w.heap.size + 1 < w1.heap.size := by omega
  have s02 : w.heap.size ≠ w1.heap.size := by omega
  have s03 : w.heap.size + 1 ≠ w1.heap.size := by omega
  have q0 : w1.cell? ⟨w.heap.size, 0, none⟩ = some (.int .i64 n) := by rw [hw1]; go_simp
  have q1 : w1.cell? ⟨w.heap.size, 1, none⟩ = some (.slice A ps.length c) := by rw [hw1]; go_simp
  have q2 : w1.cell? ⟨w.heap.size + 1, 0, none⟩ = some (.int .i64 0) := by rw [hw1]; go_simp
  have q3 : w1.cell? ⟨w.heap.size + 1, 1, none⟩ = some (.slice none 0 0) := by rw [hw1]; go_simp
  have z2 : w1.frozen? ⟨w.heap.size + 1, 0, none⟩ = false := by rw [hw1]; go_simp
  have z3 : w1.frozen? ⟨w.heap.size + 1, 1, none⟩ = false := by rw [hw1]; go_simp
  go_enter Try.func80, Try.ntmps80
  go_wp2_with fail
  rw [← hw1]
  clear hw1
  go_region
  all_goals go_wp2
  · go_loopw [18] (fun i wr => ∃ (k : Nat) (qs : List Pp), k ≤ ps.length ∧ i = .int .i64 k ∧ qs.length = ps.length ∧ qs.take k = (ps.mapIdx gf).take k ∧
        wr.ownsRow w1.heap.size 45 5 (.slice (some ⟨w1.heap.size, 0, none⟩) ps.length ps.length) ps.length (qs.flatMap Pp.cells) ∧ w1.heap.size < wr.heap.size ∧ (w1.heap.size + 1) < wr.heap.size ∧
        wr.cell? ⟨(w1.heap.size + 1), 0, none⟩ = some (.int .i64 n) ∧ wr.cell? ⟨(w1.heap.size + 1), 1, none⟩ = some (.slice (some ⟨w1.heap.size, 0, none⟩) ps.length ps.length) ∧ Below w1.heap.size w1 wr) (fun i _ => ps.length - (intOf i).toNat)
    case atStart =>
      exact ⟨0, List.replicate ps.length zeroPp, by omega, rfl, by simp, by simp, by exact (made_pipes w1 ps.length _ _ (by omega) (by omega)).alloc _, by (first | omega | (simp; done) | (simp; omega) | (simp at *; omega)), by (first | omega | (simp; done) | (simp; omega) | (simp at *; omega)), by simp, by simp, by (repeat (first | (with_reducible assumption) | (with_reducible exact Below.refl _ _) | ((with_reducible refine Below.alloc ?_ ?hsz _); (case hsz => (first | omega | (simp; done) | (simp; omega) | (simp at *; omega)))) | ((with_reducible refine Below.setCell ?_ ?hsz _); (case hsz => (first | omega | (simp; done) | (simp; omega) | (simp at *; omega)))) | (with_reducible refine Below.drew ?_) | (with_reducible refine below_drewN ?_ _) | ((with_reducible refine Below.trans ?_ (Below.mono (by with_reducible assumption) ?hsz)); (case hsz => (first | omega | (simp; done) | (simp; omega) | (simp at *; omega))))))⟩
    case round =>
      obtain ⟨k, qs, hk, rfl, hql, hqk, hown, s1, s2, d6, d7, hb⟩ := hrel
      have hbz := hb.size
      have e0 := (hb.cell (p := ⟨w.heap.size, 0, none⟩) (by (first | omega | (simp; done) | (simp; omega) | (simp at *; omega)))).trans q0
      have e1 := (hb.cell (p := ⟨w.heap.size, 1, none⟩) (by (first | omega | (simp; done) | (simp; omega) | (simp at *; omega)))).trans q1
      have e2 := (hb.cell (p := ⟨w.heap.size + 1, 0, none⟩) (by (first | omega | (simp; done) | (simp; omega) | (simp at *; omega)))).trans q2
      have e3 := (hb.cell (p := ⟨w.heap.size + 1, 1, none⟩) (by (first | omega | (simp; done) | (simp; omega) | (simp at *; omega)))).trans q3
      have f2 := (hb.frozen (p := ⟨w.heap.size + 1, 0, none⟩) (by (first | omega | (simp; done) | (simp; omega) | (simp at *; omega)))).trans z2
      have f3 := (hb.frozen (p := ⟨w.heap.size + 1, 1, none⟩) (by (first | omega | (simp; done) | (simp; omega) | (simp at *; omega)))).trans z3
      have hbw : Below w.heap.size w wr := hb1.trans (hb.mono (by omega))
      by_cases hlt : k < ps.length
      · obtain ⟨g, rfl, hg1, hg2, c0, c1, c2, c3, c4⟩ := hcell wr hbw k hlt
        have hgr : g < wr.heap.size := by omega
        have hq1 : k < qs.length := by omega
        obtain ⟨W7, hW7⟩ : ∃ W, W = wr.alloc (.cells #[.int .i64 ps[k].fr, .int .i64 ps[k].to, .int .i64 ps[k].le, .int .i64 ps[k].mo, .int .i64 ps[k].co] 45) := ⟨_, rfl⟩
        have hb77 : Below wr.heap.size wr W7 := by rw [hW7]; (repeat (first | (with_reducible assumption) | (with_reducible exact Below.refl _ _) | ((with_reducible refine Below.alloc ?_ ?hsz _); (case hsz => (first | omega | (simp; done) | (simp; omega) | (simp at *; omega)))) | ((with_reducible refine Below.setCell ?_ ?hsz _); (case hsz => (first | omega | (simp; done) | (simp; omega) | (simp at *; omega)))) | (with_reducible refine Below.drew ?_) | (with_reducible refine below_drewN ?_ _) | ((with_reducible refine Below.trans ?_ (Below.mono (by with_reducible assumption) ?hsz)); (case hsz => (first | omega | (simp; done) | (simp; omega) | (simp at *; omega))))))
        have hz7 : wr.heap.size + 1 ≤ W7.heap.size := by rw [hW7]; simp
        have hb7 : Below w1.heap.size w1 W7 := hb.trans (hb77.mono (by omega))
        have hw7 : Below w.heap.size w W7 := hb1.trans (hb7.mono (by omega))
        have p0 : W7.cell? ⟨wr.heap.size, 0, none⟩ = some (.int .i64 ps[k].fr) := by rw [hW7]; go_simp
        have p1 : W7.cell? ⟨wr.heap.size, 1, none⟩ = some (.int .i64 ps[k].to) := by rw [hW7]; go_simp
        have p2 : W7.cell? ⟨wr.heap.size, 2, none⟩ = some (.int .i64 ps[k].le) := by rw [hW7]; go_simp
        have p3 : W7.cell? ⟨wr.heap.size, 3, none⟩ = some (.int .i64 ps[k].mo) := by rw [hW7]; go_simp
        have p4 : W7.cell? ⟨wr.heap.size, 4, none⟩ = some (.int .i64 ps[k].co) := by rw [hW7]; go_simp
        have hcl : ∀ W, Below W7.heap.size W7 W → Calls Try.prog 81 (#[.int .i64 (k : Int), .agg #[.int .i64 ps[k].fr, .int .i64 ps[k].to, .int .i64 ps[k].le, .int .i64 ps[k].mo, .int .i64 ps[k].co]] ++ #[]) W fun e w' => e = .returned (.agg #[.int .i64 (gf k ps[k]).fr, .int .i64 (gf k ps[k]).to, .int .i64 (gf k ps[k]).le, .int .i64 (gf k ps[k]).mo, .int .i64 (gf k ps[k]).co]) ∧ Below W.heap.size W w' := by
          intro wx hB
          have hw7z := hw7.size
          have hBz := hB.size
          rw [HG.out]
          exact turnFn_any (k : Int) ps[k] wx
        have HO7 := Lib.hid (own_keep hown (Nat.le_refl _) hb77)
        have D67 := And.intro ((hb77.cell (p := ⟨(w1.heap.size + 1), 0, none⟩) s2).trans d6) ((hb77.cell (p := ⟨(w1.heap.size + 1), 1, none⟩) s2).trans d7)
        have Hql := Lib.hid hql
        have Hqk := Lib.hid hqk
        have hlz : ps.length ≤ 7 := l7
        clear hql hqk hown hb77
        go_wp2_with fail
        rw [← hW7]
        clear d6 d7 e0 e1 e2 e3 f2 f3 c0 c1 c2 c3 c4 hW7
        obtain ⟨d6, d7⟩ := D67
        refine wp_region_flowL 9 none [(0, 23), (1, 24), (2, 25), (3, 26), (4, 27), (5, 28), (6, 29), (7, 30)] (fun j x _ wx => rmTurnedNetV W7 (w1.heap.size + 1) w1.heap.size ps.length k (.func (Fn.func 81) #[] #[]) ps[k] (gf k ps[k]) j x wx) (fun i wx wy => if i = 8 then True else Below wx.heap.size wx wy) (fun f wx => 1 ≤ f → Below W7.heap.size W7 wx) (by kernel_rfl) (by kernel_rfl) rfl (fun _ => ⟨rfl, rfl, rfl, Nat.le_refl _, fun _ _ => rfl⟩) ?_ ?_ ?_ ?_
        · intro i k hi hk hal x u wa wb hR hV
          have hk' : k < 9 := hk
          have hi' : i < 9 := hi
          by_cases nn : k = 8
          · subst nn
            exfalso
            rcases i with _ | _ | _ | _ | _ | _ | _ | _ | _ | i
            all_goals (first | omega | (revert hal; decide))
          · rcases k with _ | _ | _ | _ | _ | _ | _ | _ | _ | k
            all_goals first
              | exact hV
              | (exfalso; omega)
        · exact fun _ _ _ _ _ _ _ h => h
        · simp (maxSteps := 4000000) only [eachOp, fillF, List.setIfInBounds_toArray, List.set_cons_succ, List.set_cons_zero]
          refine ⟨?_, ?_, ?_, ?_, ?_, ?_, ?_, ?_, ?_, trivial⟩ <;> intro u f wx hC hd hf <;> (try simp [allV, useOf, Region.binds] at hd)
          · have hf1 : 1 ≤ f := Nat.le_trans (by decide) hf.1
            have hB := hC (by omega)
            clear hf
            have hBz := hB.size
            go_wp2
            first | exact ⟨_, rfl, rfl, Below.refl _ _, fun _ => hB⟩ | exact ⟨_, rfl, rfl, Below.refl _ _, hB⟩
          · rw [show u 0 = _ from (by first | exact hd | exact hd.1 | exact hd.2 | exact hd.2.1 | exact hd.2.2 | exact hd.2.2.1 | exact hd.2.2.2 | exact hd.2.2.2.1 | exact hd.2.2.2.2)]
            have hf1 : 1 ≤ f := Nat.le_trans (by decide) hf.1
            have hB := hC (by omega)
            clear hf
            have hBz := hB.size
            have e9 := (hB.cell (p := ⟨(w1.heap.size + 1), 1, none⟩) (by (first | omega | (simp; done) | (simp; omega) | (simp at *; omega)))).trans d7
            go_wp2
            first | exact ⟨_, rfl, rfl, Below.refl _ _, fun _ => hB⟩ | exact ⟨_, rfl, rfl, Below.refl _ _, hB⟩
          · have hf1 : 1 ≤ f := Nat.le_trans (by decide) hf.1
            have hB := hC (by omega)
            clear hf
            have hBz := hB.size
            go_wp2
            first | exact ⟨_, rfl, rfl, Below.refl _ _, fun _ => hB⟩ | exact ⟨_, rfl, rfl, Below.refl _ _, hB⟩
          · have hf1 : 1 ≤ f := Nat.le_trans (by decide) hf.1
            have hB := hC (by omega)
            clear hf
            have hBz := hB.size
            go_wp2
            first | exact ⟨_, rfl, rfl, Below.refl _ _, fun _ => hB⟩ | exact ⟨_, rfl, rfl, Below.refl _ _, hB⟩
          · have hf1 : 1 ≤ f := Nat.le_trans (by decide) hf.1
            have hB := hC (by omega)
            clear hf
            have hBz := hB.size
            go_wp2
            first | exact ⟨_, rfl, rfl, Below.refl _ _, fun _ => hB⟩ | exact ⟨_, rfl, rfl, Below.refl _ _, hB⟩
          · have hf1 : 1 ≤ f := Nat.le_trans (by decide) hf.1
            have hB := hC (by omega)
            clear hf
            have hBz := hB.size
            have e10 := (hB.cell (p := ⟨wr.heap.size, 0, none⟩) (by (first | omega | (simp; done) | (simp; omega) | (simp at *; omega)))).trans p0
            have e11 := (hB.cell (p := ⟨wr.heap.size, 1, none⟩) (by (first | omega | (simp; done) | (simp; omega) | (simp at *; omega)))).trans p1
            have e12 := (hB.cell (p := ⟨wr.heap.size, 2, none⟩) (by (first | omega | (simp; done) | (simp; omega) | (simp at *; omega)))).trans p2
            have e13 := (hB.cell (p := ⟨wr.heap.size, 3, none⟩) (by (first | omega | (simp; done) | (simp; omega) | (simp at *; omega)))).trans p3
            have e14 := (hB.cell (p := ⟨wr.heap.size, 4, none⟩) (by (first | omega | (simp; done) | (simp; omega) | (simp at *; omega)))).trans p4
            go_wp2
            first | exact ⟨_, rfl, rfl, Below.refl _ _, fun _ => hB⟩ | exact ⟨_, rfl, rfl, Below.refl _ _, hB⟩
          · rw [show u 3 = _ from (by first | exact hd | exact hd.1 | exact hd.2 | exact hd.2.1 | exact hd.2.2 | exact hd.2.2.1 | exact hd.2.2.2 | exact hd.2.2.2.1 | exact hd.2.2.2.2), show u 4 = _ from (by first | exact hd | exact hd.1 | exact hd.2 | exact hd.2.1 | exact hd.2.2 | exact hd.2.2.1 | exact hd.2.2.2 | exact hd.2.2.2.1 | exact hd.2.2.2.2), show u 5 = _ from (by first | exact hd | exact hd.1 | exact hd.2 | exact hd.2.1 | exact hd.2.2 | exact hd.2.2.1 | exact hd.2.2.2 | exact hd.2.2.2.1 | exact hd.2.2.2.2)]
            have hf1 : 1 ≤ f := Nat.le_trans (by decide) hf.1
            have hB := hC (by omega)
            clear hf
            have hBz := hB.size
            go_wp2_with fail
            refine (hcl wx hB).mono ?_
            rintro e wy ⟨rfl, hby⟩
            go_wp2
            first | exact ⟨_, rfl, rfl, hby, fun _ => hB.trans (hby.mono hBz)⟩ | exact ⟨_, rfl, rfl, hby, hB.trans (hby.mono hBz)⟩
          · rw [show u 1 = _ from (by first | exact hd | exact hd.1 | exact hd.2 | exact hd.2.1 | exact hd.2.2 | exact hd.2.2.1 | exact hd.2.2.2 | exact hd.2.2.2.1 | exact hd.2.2.2.2), show u 2 = _ from (by first | exact hd | exact hd.1 | exact hd.2 | exact hd.2.1 | exact hd.2.2 | exact hd.2.2.1 | exact hd.2.2.2 | exact hd.2.2.2.1 | exact hd.2.2.2.2)]
            have hf1 : 1 ≤ f := Nat.le_trans (by decide) hf.1
            have hB := hC (by omega)
            clear hf
            have hBz := hB.size
            go_wp2
            first | exact ⟨_, rfl, rfl, Below.refl _ _, fun _ => hB⟩ | exact ⟨_, rfl, rfl, Below.refl _ _, hB⟩
          · rw [show u 7 = _ from (by first | exact hd | exact hd.1 | exact hd.2 | exact hd.2.1 | exact hd.2.2 | exact hd.2.2.1 | exact hd.2.2.2 | exact hd.2.2.2.1 | exact hd.2.2.2.2), show u 6 = _ from (by first | exact hd | exact hd.1 | exact hd.2 | exact hd.2.1 | exact hd.2.2 | exact hd.2.2.1 | exact hd.2.2.2 | exact hd.2.2.2.1 | exact hd.2.2.2.2)]
            have hf2 := hf.2
            have hB := hC (by omega)
            clear hf
            have hBz := hB.size
            have hown9 := own_keep HO7.out (Nat.le_refl _) hB
            obtain ⟨hgx, ⟨o0, o1, o2, o3, o4⟩, hof⟩ := own_cells5 (k := k) hown9 hq1
            have k0 := hof (k * 5)
            have k1 := hof (k * 5 + 1)
            have k2 := hof (k * 5 + 2)
            have k3 := hof (k * 5 + 3)
            have k4 := hof (k * 5 + 4)
            clear hof hown9
            go_wp2
            exact ⟨undef, rfl, ⟨rfl, _, hB, rfl⟩, (if_pos rfl ▸ trivial : (if (8 : Nat) = 8 then True else _)), fun h => absurd h (by have := Nat.le_trans hf2 (by decide : _ ≤ 0); omega)⟩
        · intro u f wx hC hfin
          simp only [fillEnd, fillF, Act.put, List.setIfInBounds_toArray, List.set_cons_succ, List.set_cons_zero]
          obtain ⟨-, w9, hb9, hw9⟩ := hfin 8 (by decide) (by decide)
          subst hw9
          clear hfin hC
          have hz9 := hb9.size
          have hown9 := own_set5 (k := k) (own_keep HO7.out (Nat.le_refl _) hb9) hq1 (gf k ps[k])
          have hg9 : w1.heap.size < w9.heap.size := by omega
          have hb10 : Below w1.heap.size w1 (((((w9.setCell ⟨w1.heap.size, k * 5, none⟩ (.int .i64 (gf k ps[k]).fr)).setCell ⟨w1.heap.size, k * 5 + 1, none⟩ (.int .i64 (gf k ps[k]).to)).setCell ⟨w1.heap.size, k * 5 + 2, none⟩ (.int .i64 (gf k ps[k]).le)).setCell ⟨w1.heap.size, k * 5 + 3, none⟩ (.int .i64 (gf k ps[k]).mo)).setCell ⟨w1.heap.size, k * 5 + 4, none⟩ (.int .i64 (gf k ps[k]).co)) := (((((hb7.trans (hb9.mono (by omega))).setCell (p := ⟨w1.heap.size, k * 5, none⟩) (by (first | omega | (simp; done) | (simp; omega) | (simp at *; omega))) _).setCell (p := ⟨w1.heap.size, k * 5 + 1, none⟩) (by (first | omega | (simp; done) | (simp; omega) | (simp at *; omega))) _).setCell (p := ⟨w1.heap.size, k * 5 + 2, none⟩) (by (first | omega | (simp; done) | (simp; omega) | (simp at *; omega))) _).setCell (p := ⟨w1.heap.size, k * 5 + 3, none⟩) (by (first | omega | (simp; done) | (simp; omega) | (simp at *; omega))) _).setCell (p := ⟨w1.heap.size, k * 5 + 4, none⟩) (by (first | omega | (simp; done) | (simp; omega) | (simp at *; omega))) _
          have y0 : (((((w9.setCell ⟨w1.heap.size, k * 5, none⟩ (.int .i64 (gf k ps[k]).fr)).setCell ⟨w1.heap.size, k * 5 + 1, none⟩ (.int .i64 (gf k ps[k]).to)).setCell ⟨w1.heap.size, k * 5 + 2, none⟩ (.int .i64 (gf k ps[k]).le)).setCell ⟨w1.heap.size, k * 5 + 3, none⟩ (.int .i64 (gf k ps[k]).mo)).setCell ⟨w1.heap.size, k * 5 + 4, none⟩ (.int .i64 (gf k ps[k]).co)).cell? ⟨(w1.heap.size + 1), 0, none⟩ = some (.int .i64 n) := (World.cell?_setCell_other _ _ _ _ (by intro h; injection h with h1 h2; omega)).trans ((World.cell?_setCell_other _ _ _ _ (by intro h; injection h with h1 h2; omega)).trans ((World.cell?_setCell_other _ _ _ _ (by intro h; injection h with h1 h2; omega)).trans ((World.cell?_setCell_other _ _ _ _ (by intro h; injection h with h1 h2; omega)).trans ((World.cell?_setCell_other _ _ _ _ (by intro h; injection h with h1 h2; omega)).trans ((hb9.cell (p := ⟨(w1.heap.size + 1), 0, none⟩) (by (first | omega | (simp; done) | (simp; omega) | (simp at *; omega)))).trans d6)))))
          have y1 : (((((w9.setCell ⟨w1.heap.size, k * 5, none⟩ (.int .i64 (gf k ps[k]).fr)).setCell ⟨w1.heap.size, k * 5 + 1, none⟩ (.int .i64 (gf k ps[k]).to)).setCell ⟨w1.heap.size, k * 5 + 2, none⟩ (.int .i64 (gf k ps[k]).le)).setCell ⟨w1.heap.size, k * 5 + 3, none⟩ (.int .i64 (gf k ps[k]).mo)).setCell ⟨w1.heap.size, k * 5 + 4, none⟩ (.int .i64 (gf k ps[k]).co)).cell? ⟨(w1.heap.size + 1), 1, none⟩ = some (.slice (some ⟨w1.heap.size, 0, none⟩) ps.length ps.length) := (World.cell?_setCell_other _ _ _ _ (by intro h; injection h with h1 h2; omega)).trans ((World.cell?_setCell_other _ _ _ _ (by intro h; injection h with h1 h2; omega)).trans ((World.cell?_setCell_other _ _ _ _ (by intro h; injection h with h1 h2; omega)).trans ((World.cell?_setCell_other _ _ _ _ (by intro h; injection h with h1 h2; omega)).trans ((World.cell?_setCell_other _ _ _ _ (by intro h; injection h with h1 h2; omega)).trans ((hb9.cell (p := ⟨(w1.heap.size + 1), 1, none⟩) (by (first | omega | (simp; done) | (simp; omega) | (simp at *; omega)))).trans d7)))))
          have x1 : w1.heap.size < (((((w9.setCell ⟨w1.heap.size, k * 5, none⟩ (.int .i64 (gf k ps[k]).fr)).setCell ⟨w1.heap.size, k * 5 + 1, none⟩ (.int .i64 (gf k ps[k]).to)).setCell ⟨w1.heap.size, k * 5 + 2, none⟩ (.int .i64 (gf k ps[k]).le)).setCell ⟨w1.heap.size, k * 5 + 3, none⟩ (.int .i64 (gf k ps[k]).mo)).setCell ⟨w1.heap.size, k * 5 + 4, none⟩ (.int .i64 (gf k ps[k]).co)).heap.size := by simp only [World.size_setCell]; omega
          have x2 : (w1.heap.size + 1) < (((((w9.setCell ⟨w1.heap.size, k * 5, none⟩ (.int .i64 (gf k ps[k]).fr)).setCell ⟨w1.heap.size, k * 5 + 1, none⟩ (.int .i64 (gf k ps[k]).to)).setCell ⟨w1.heap.size, k * 5 + 2, none⟩ (.int .i64 (gf k ps[k]).le)).setCell ⟨w1.heap.size, k * 5 + 3, none⟩ (.int .i64 (gf k ps[k]).mo)).setCell ⟨w1.heap.size, k * 5 + 4, none⟩ (.int .i64 (gf k ps[k]).co)).heap.size := by simp only [World.size_setCell]; omega
          have HE := Lib.hid (And.intro hown9 (And.intro hb10 (And.intro y0 (And.intro y1 (And.intro x1 x2)))))
          clear hown9 hb10 y0 y1 x1 x2 hb9
          go_wp2
          go_roundw
          case rel => exact ⟨k + 1, qs.set k (gf k ps[k]), by omega, by go_num, by simp; exact Hql.out, set_take hq1 Hqk.out (by simp [hlt]), (by with_reducible exact HE.out.1), HE.out.2.2.2.2.1, HE.out.2.2.2.2.2, HE.out.2.2.1, HE.out.2.2.2.1, HE.out.2.1⟩
          case measure => simp [intOf]; omega
      · go_wp2
        have hk2 : k = ps.length := by omega
        subst hk2
        have hz : qs = ps.mapIdx gf := by
          rw [List.take_of_length_le (by omega), List.take_of_length_le (by simp)] at hqk
          exact hqk
        subst hz
        have hfin : Pipes wr w1.heap.size (.slice (some ⟨w1.heap.size, 0, none⟩) ps.length ps.length) (ps.mapIdx gf) := ⟨by simpa using hown, by simp [small]; omega⟩
        refine bodyPost_ret (v := .agg #[.int .i64 n, .slice (some ⟨w1.heap.size, 0, none⟩) ps.length ps.length]) (by simp [results, Try.results80, go_sem, e2, e3]) rfl ⟨_, rfl, ?_, by (repeat (first | (with_reducible assumption) | (with_reducible exact Below.refl _ _) | ((with_reducible refine Below.alloc ?_ ?hsz _); (case hsz => (first | omega | (simp; done) | (simp; omega) | (simp at *; omega)))) | ((with_reducible refine Below.setCell ?_ ?hsz _); (case hsz => (first | omega | (simp; done) | (simp; omega) | (simp at *; omega)))) | (with_reducible refine Below.drew ?_) | (with_reducible refine below_drewN ?_ _) | ((with_reducible refine Below.trans ?_ (Below.mono (by with_reducible assumption) ?hsz)); (case hsz => (first | omega | (simp; done) | (simp; omega) | (simp at *; omega))))))⟩
        exact ((hfin.setLow (by omega)).setLow (by omega)).mono (by omega)
  · go_loopw [18] (fun i wr => ∃ (k : Nat) (qs : List Pp), k ≤ ps.length ∧ i = .int .i64 k ∧ qs.length = ps.length ∧ qs.take k = (ps.mapIdx gf).take k ∧
        wr.ownsRow w1.heap.size 45 5 (.slice (some ⟨(w1.heap.size + 1), 0, none⟩) ps.length ps.length) ps.length (qs.flatMap Pp.cells) ∧ (w1.heap.size + 1) < wr.heap.size ∧ w1.heap.size < wr.heap.size ∧
        wr.cell? ⟨w1.heap.size, 0, none⟩ = some (.int .i64 n) ∧ wr.cell? ⟨w1.heap.size, 1, none⟩ = some (.slice (some ⟨(w1.heap.size + 1), 0, none⟩) ps.length ps.length) ∧ Below w1.heap.size w1 wr) (fun i _ => ps.length - (intOf i).toNat)
    case atStart =>
      exact ⟨0, List.replicate ps.length zeroPp, by omega, rfl, by simp, by simp, by have h := made_pipes (w1.alloc (.cells #[.int .i64 n, .slice (some ⟨w1.heap.size + 1, 0, none⟩) ps.length ps.length] 25)) ps.length 45 w1.heap.size (by (first | omega | (simp; done) | (simp; omega) | (simp at *; omega))) (by omega); rw [World.size_alloc] at h; exact h, by (first | omega | (simp; done) | (simp; omega) | (simp at *; omega)), by (first | omega | (simp; done) | (simp; omega) | (simp at *; omega)), by simp, by simp, by (repeat (first | (with_reducible assumption) | (with_reducible exact Below.refl _ _) | ((with_reducible refine Below.alloc ?_ ?hsz _); (case hsz => (first | omega | (simp; done) | (simp; omega) | (simp at *; omega)))) | ((with_reducible refine Below.setCell ?_ ?hsz _); (case hsz => (first | omega | (simp; done) | (simp; omega) | (simp at *; omega)))) | (with_reducible refine Below.drew ?_) | (with_reducible refine below_drewN ?_ _) | ((with_reducible refine Below.trans ?_ (Below.mono (by with_reducible assumption) ?hsz)); (case hsz => (first | omega | (simp; done) | (simp; omega) | (simp at *; omega))))))⟩
    case round =>
      obtain ⟨k, qs, hk, rfl, hql, hqk, hown, s1, s2, d6, d7, hb⟩ := hrel
      have hbz := hb.size
      have e0 := (hb.cell (p := ⟨w.heap.size, 0, none⟩) (by (first | omega | (simp; done) | (simp; omega) | (simp at *; omega)))).trans q0
      have e1 := (hb.cell (p := ⟨w.heap.size, 1, none⟩) (by (first | omega | (simp; done) | (simp; omega) | (simp at *; omega)))).trans q1
      have e2 := (hb.cell (p := ⟨w.heap.size + 1, 0, none⟩) (by (first | omega | (simp; done) | (simp; omega) | (simp at *; omega)))).trans q2
      have e3 := (hb.cell (p := ⟨w.heap.size + 1, 1, none⟩) (by (first | omega | (simp; done) | (simp; omega) | (simp at *; omega)))).trans q3
      have f2 := (hb.frozen (p := ⟨w.heap.size + 1, 0, none⟩) (by (first | omega | (simp; done) | (simp; omega) | (simp at *; omega)))).trans z2
      have f3 := (hb.frozen (p := ⟨w.heap.size + 1, 1, none⟩) (by (first | omega | (simp; done) | (simp; omega) | (simp at *; omega)))).trans z3
      have hbw : Below w.heap.size w wr := hb1.trans (hb.mono (by omega))
      by_cases hlt : k < ps.length
      · obtain ⟨g, rfl, hg1, hg2, c0, c1, c2, c3, c4⟩ := hcell wr hbw k hlt
        have hgr : g < wr.heap.size := by omega
        have hq1 : k < qs.length := by omega
        obtain ⟨W7, hW7⟩ : ∃ W, W = wr.alloc (.cells #[.int .i64 ps[k].fr, .int .i64 ps[k].to, .int .i64 ps[k].le, .int .i64 ps[k].mo, .int .i64 ps[k].co] 45) := ⟨_, rfl⟩
        have hb77 : Below wr.heap.size wr W7 := by rw [hW7]; (repeat (first | (with_reducible assumption) | (with_reducible exact Below.refl _ _) | ((with_reducible refine Below.alloc ?_ ?hsz _); (case hsz => (first | omega | (simp; done) | (simp; omega) | (simp at *; omega)))) | ((with_reducible refine Below.setCell ?_ ?hsz _); (case hsz => (first | omega | (simp; done) | (simp; omega) | (simp at *; omega)))) | (with_reducible refine Below.drew ?_) | (with_reducible refine below_drewN ?_ _) | ((with_reducible refine Below.trans ?_ (Below.mono (by with_reducible assumption) ?hsz)); (case hsz => (first | omega | (simp; done) | (simp; omega) | (simp at *; omega))))))
        have hz7 : wr.heap.size + 1 ≤ W7.heap.size := by rw [hW7]; simp
        have hb7 : Below w1.heap.size w1 W7 := hb.trans (hb77.mono (by omega))
        have hw7 : Below w.heap.size w W7 := hb1.trans (hb7.mono (by omega))
        have p0 : W7.cell? ⟨wr.heap.size, 0, none⟩ = some (.int .i64 ps[k].fr) := by rw [hW7]; go_simp
        have p1 : W7.cell? ⟨wr.heap.size, 1, none⟩ = some (.int .i64 ps[k].to) := by rw [hW7]; go_simp
        have p2 : W7.cell? ⟨wr.heap.size, 2, none⟩ = some (.int .i64 ps[k].le) := by rw [hW7]; go_simp
        have p3 : W7.cell? ⟨wr.heap.size, 3, none⟩ = some (.int .i64 ps[k].mo) := by rw [hW7]; go_simp
        have p4 : W7.cell? ⟨wr.heap.size, 4, none⟩ = some (.int .i64 ps[k].co) := by rw [hW7]; go_simp
        have hcl : ∀ W, Below W7.heap.size W7 W → Calls Try.prog 81 (#[.int .i64 (k : Int), .agg #[.int .i64 ps[k].fr, .int .i64 ps[k].to, .int .i64 ps[k].le, .int .i64 ps[k].mo, .int .i64 ps[k].co]] ++ #[]) W fun e w' => e = .returned (.agg #[.int .i64 (gf k ps[k]).fr, .int .i64 (gf k ps[k]).to, .int .i64 (gf k ps[k]).le, .int .i64 (gf k ps[k]).mo, .int .i64 (gf k ps[k]).co]) ∧ Below W.heap.size W w' := by
          intro wx hB
          have hw7z := hw7.size
          have hBz := hB.size
          rw [HG.out]
          exact turnFn_any (k : Int) ps[k] wx
        have HO7 := Lib.hid (own_keep hown (Nat.le_refl _) hb77)
        have D67 := And.intro ((hb77.cell (p := ⟨w1.heap.size, 0, none⟩) s2).trans d6) ((hb77.cell (p := ⟨w1.heap.size, 1, none⟩) s2).trans d7)
        have Hql := Lib.hid hql
        have Hqk := Lib.hid hqk
        have hlz : ps.length ≤ 7 := l7
        clear hql hqk hown hb77
        go_wp2_with fail
        rw [← hW7]
        clear d6 d7 e0 e1 e2 e3 f2 f3 c0 c1 c2 c3 c4 hW7
        obtain ⟨d6, d7⟩ := D67
        refine wp_region_flowL 9 none [(0, 23), (1, 24), (2, 25), (3, 26), (4, 27), (5, 28), (6, 29), (7, 30)] (fun j x _ wx => rmTurnedNetV W7 w1.heap.size (w1.heap.size + 1) ps.length k (.func (Fn.func 81) #[] #[]) ps[k] (gf k ps[k]) j x wx) (fun i wx wy => if i = 8 then True else Below wx.heap.size wx wy) (fun f wx => 1 ≤ f → Below W7.heap.size W7 wx) (by kernel_rfl) (by kernel_rfl) rfl (fun _ => ⟨rfl, rfl, rfl, Nat.le_refl _, fun _ _ => rfl⟩) ?_ ?_ ?_ ?_
        · intro i k hi hk hal x u wa wb hR hV
          have hk' : k < 9 := hk
          have hi' : i < 9 := hi
          by_cases nn : k = 8
          · subst nn
            exfalso
            rcases i with _ | _ | _ | _ | _ | _ | _ | _ | _ | i
            all_goals (first | omega | (revert hal; decide))
          · rcases k with _ | _ | _ | _ | _ | _ | _ | _ | _ | k
            all_goals first
              | exact hV
              | (exfalso; omega)
        · exact fun _ _ _ _ _ _ _ h => h
        · simp (maxSteps := 4000000) only [eachOp, fillF, List.setIfInBounds_toArray, List.set_cons_succ, List.set_cons_zero]
          refine ⟨?_, ?_, ?_, ?_, ?_, ?_, ?_, ?_, ?_, trivial⟩ <;> intro u f wx hC hd hf <;> (try simp [allV, useOf, Region.binds] at hd)
          · have hf1 : 1 ≤ f := Nat.le_trans (by decide) hf.1
            have hB := hC (by omega)
            clear hf
            have hBz := hB.size
            go_wp2
            first | exact ⟨_, rfl, rfl, Below.refl _ _, fun _ => hB⟩ | exact ⟨_, rfl, rfl, Below.refl _ _, hB⟩
          · rw [show u 0 = _ from (by first | exact hd | exact hd.1 | exact hd.2 | exact hd.2.1 | exact hd.2.2 | exact hd.2.2.1 | exact hd.2.2.2 | exact hd.2.2.2.1 | exact hd.2.2.2.2)]
            have hf1 : 1 ≤ f := Nat.le_trans (by decide) hf.1
            have hB := hC (by omega)
            clear hf
            have hBz := hB.size
            have e9 := (hB.cell (p := ⟨w1.heap.size, 1, none⟩) (by (first | omega | (simp; done) | (simp; omega) | (simp at *; omega)))).trans d7
            go_wp2
            first | exact ⟨_, rfl, rfl, Below.refl _ _, fun _ => hB⟩ | exact ⟨_, rfl, rfl, Below.refl _ _, hB⟩
          · have hf1 : 1 ≤ f := Nat.le_trans (by decide) hf.1
            have hB := hC (by omega)
            clear hf
            have hBz := hB.size
            go_wp2
            first | exact ⟨_, rfl, rfl, Below.refl _ _, fun _ => hB⟩ | exact ⟨_, rfl, rfl, Below.refl _ _, hB⟩
          · have hf1 : 1 ≤ f := Nat.le_trans (by decide) hf.1
            have hB := hC (by omega)
            clear hf
            have hBz := hB.size
            go_wp2
            first | exact ⟨_, rfl, rfl, Below.refl _ _, fun _ => hB⟩ | exact ⟨_, rfl, rfl, Below.refl _ _, hB⟩
          · have hf1 : 1 ≤ f := Nat.le_trans (by decide) hf.1
            have hB := hC (by omega)
            clear hf
            have hBz := hB.size
            go_wp2
            first | exact ⟨_, rfl, rfl, Below.refl _ _, fun _ => hB⟩ | exact ⟨_, rfl, rfl, Below.refl _ _, hB⟩
          · have hf1 : 1 ≤ f := Nat.le_trans (by decide) hf.1
            have hB := hC (by omega)
            clear hf
            have hBz := hB.size
            have e10 := (hB.cell (p := ⟨wr.heap.size, 0, none⟩) (by (first | omega | (simp; done) | (simp; omega) | (simp at *; omega)))).trans p0
            have e11 := (hB.cell (p := ⟨wr.heap.size, 1, none⟩) (by (first | omega | (simp; done) | (simp; omega) | (simp at *; omega)))).trans p1
            have e12 := (hB.cell (p := ⟨wr.heap.size, 2, none⟩) (by (first | omega | (simp; done) | (simp; omega) | (simp at *; omega)))).trans p2
            have e13 := (hB.cell (p := ⟨wr.heap.size, 3, none⟩) (by (first | omega | (simp; done) | (simp; omega) | (simp at *; omega)))).trans p3
            have e14 := (hB.cell (p := ⟨wr.heap.size, 4, none⟩) (by (first | omega | (simp; done) | (simp; omega) | (simp at *; omega)))).trans p4
            go_wp2
            first | exact ⟨_, rfl, rfl, Below.refl _ _, fun _ => hB⟩ | exact ⟨_, rfl, rfl, Below.refl _ _, hB⟩
          · rw [show u 3 = _ from (by first | exact hd | exact hd.1 | exact hd.2 | exact hd.2.1 | exact hd.2.2 | exact hd.2.2.1 | exact hd.2.2.2 | exact hd.2.2.2.1 | exact hd.2.2.2.2), show u 4 = _ from (by first | exact hd | exact hd.1 | exact hd.2 | exact hd.2.1 | exact hd.2.2 | exact hd.2.2.1 | exact hd.2.2.2 | exact hd.2.2.2.1 | exact hd.2.2.2.2), show u 5 = _ from (by first | exact hd | exact hd.1 | exact hd.2 | exact hd.2.1 | exact hd.2.2 | exact hd.2.2.1 | exact hd.2.2.2 | exact hd.2.2.2.1 | exact hd.2.2.2.2)]
            have hf1 : 1 ≤ f := Nat.le_trans (by decide) hf.1
            have hB := hC (by omega)
            clear hf
            have hBz := hB.size
            go_wp2_with fail
            refine (hcl wx hB).mono ?_
            rintro e wy ⟨rfl, hby⟩
            go_wp2
            first | exact ⟨_, rfl, rfl, hby, fun _ => hB.trans (hby.mono hBz)⟩ | exact ⟨_, rfl, rfl, hby, hB.trans (hby.mono hBz)⟩
          · rw [show u 1 = _ from (by first | exact hd | exact hd.1 | exact hd.2 | exact hd.2.1 | exact hd.2.2 | exact hd.2.2.1 | exact hd.2.2.2 | exact hd.2.2.2.1 | exact hd.2.2.2.2), show u 2 = _ from (by first | exact hd | exact hd.1 | exact hd.2 | exact hd.2.1 | exact hd.2.2 | exact hd.2.2.1 | exact hd.2.2.2 | exact hd.2.2.2.1 | exact hd.2.2.2.2)]
            have hf1 : 1 ≤ f := Nat.le_trans (by decide) hf.1
            have hB := hC (by omega)
            clear hf
            have hBz := hB.size
            go_wp2
            first | exact ⟨_, rfl, rfl, Below.refl _ _, fun _ => hB⟩ | exact ⟨_, rfl, rfl, Below.refl _ _, hB⟩
          · rw [show u 7 = _ from (by first | exact hd | exact hd.1 | exact hd.2 | exact hd.2.1 | exact hd.2.2 | exact hd.2.2.1 | exact hd.2.2.2 | exact hd.2.2.2.1 | exact hd.2.2.2.2), show u 6 = _ from (by first | exact hd | exact hd.1 | exact hd.2 | exact hd.2.1 | exact hd.2.2 | exact hd.2.2.1 | exact hd.2.2.2 | exact hd.2.2.2.1 | exact hd.2.2.2.2)]
            have hf2 := hf.2
            have hB := hC (by omega)
            clear hf
            have hBz := hB.size
            have hown9 := own_keep HO7.out (Nat.le_refl _) hB
            obtain ⟨hgx, ⟨o0, o1, o2, o3, o4⟩, hof⟩ := own_cells5 (k := k) hown9 hq1
            have k0 := hof (k * 5)
            have k1 := hof (k * 5 + 1)
            have k2 := hof (k * 5 + 2)
            have k3 := hof (k * 5 + 3)
            have k4 := hof (k * 5 + 4)
            clear hof hown9
            go_wp2
            exact ⟨undef, rfl, ⟨rfl, _, hB, rfl⟩, (if_pos rfl ▸ trivial : (if (8 : Nat) = 8 then True else _)), fun h => absurd h (by have := Nat.le_trans hf2 (by decide : _ ≤ 0); omega)⟩
        · intro u f wx hC hfin
          simp only [fillEnd, fillF, Act.put, List.setIfInBounds_toArray, List.set_cons_succ, List.set_cons_zero]
          obtain ⟨-, w9, hb9, hw9⟩ := hfin 8 (by decide) (by decide)
          subst hw9
          clear hfin hC
          have hz9 := hb9.size
          have hown9 := own_set5 (k := k) (own_keep HO7.out (Nat.le_refl _) hb9) hq1 (gf k ps[k])
          have hg9 : (w1.heap.size + 1) < w9.heap.size := by omega
          have hb10 : Below w1.heap.size w1 (((((w9.setCell ⟨(w1.heap.size + 1), k * 5, none⟩ (.int .i64 (gf k ps[k]).fr)).setCell ⟨(w1.heap.size + 1), k * 5 + 1, none⟩ (.int .i64 (gf k ps[k]).to)).setCell ⟨(w1.heap.size + 1), k * 5 + 2, none⟩ (.int .i64 (gf k ps[k]).le)).setCell ⟨(w1.heap.size + 1), k * 5 + 3, none⟩ (.int .i64 (gf k ps[k]).mo)).setCell ⟨(w1.heap.size + 1), k * 5 + 4, none⟩ (.int .i64 (gf k ps[k]).co)) := (((((hb7.trans (hb9.mono (by omega))).setCell (p := ⟨(w1.heap.size + 1), k * 5, none⟩) (by (first | omega | (simp; done) | (simp; omega) | (simp at *; omega))) _).setCell (p := ⟨(w1.heap.size + 1), k * 5 + 1, none⟩) (by (first | omega | (simp; done) | (simp; omega) | (simp at *; omega))) _).setCell (p := ⟨(w1.heap.size + 1), k * 5 + 2, none⟩) (by (first | omega | (simp; done) | (simp; omega) | (simp at *; omega))) _).setCell (p := ⟨(w1.heap.size + 1), k * 5 + 3, none⟩) (by (first | omega | (simp; done) | (simp; omega) | (simp at *; omega))) _).setCell (p := ⟨(w1.heap.size + 1), k * 5 + 4, none⟩) (by (first | omega | (simp; done) | (simp; omega) | (simp at *; omega))) _
          have y0 : (((((w9.setCell ⟨(w1.heap.size + 1), k * 5, none⟩ (.int .i64 (gf k ps[k]).fr)).setCell ⟨(w1.heap.size + 1), k * 5 + 1, none⟩ (.int .i64 (gf k ps[k]).to)).setCell ⟨(w1.heap.size + 1), k * 5 + 2, none⟩ (.int .i64 (gf k ps[k]).le)).setCell ⟨(w1.heap.size + 1), k * 5 + 3, none⟩ (.int .i64 (gf k ps[k]).mo)).setCell ⟨(w1.heap.size + 1), k * 5 + 4, none⟩ (.int .i64 (gf k ps[k]).co)).cell? ⟨w1.heap.size, 0, none⟩ = some (.int .i64 n) := (World.cell?_setCell_other _ _ _ _ (by intro h; injection h with h1 h2; omega)).trans ((World.cell?_setCell_other _ _ _ _ (by intro h; injection h with h1 h2; omega)).trans ((World.cell?_setCell_other _ _ _ _ (by intro h; injection h with h1 h2; omega)).trans ((World.cell?_setCell_other _ _ _ _ (by intro h; injection h with h1 h2; omega)).trans ((World.cell?_setCell_other _ _ _ _ (by intro h; injection h with h1 h2; omega)).trans ((hb9.cell (p := ⟨w1.heap.size, 0, none⟩) (by (first | omega | (simp; done) | (simp; omega) | (simp at *; omega)))).trans d6)))))
          have y1 : (((((w9.setCell ⟨(w1.heap.size + 1), k * 5, none⟩ (.int .i64 (gf k ps[k]).fr)).setCell ⟨(w1.heap.size + 1), k * 5 + 1, none⟩ (.int .i64 (gf k ps[k]).to)).setCell ⟨(w1.heap.size + 1), k * 5 + 2, none⟩ (.int .i64 (gf k ps[k]).le)).setCell ⟨(w1.heap.size + 1), k * 5 + 3, none⟩ (.int .i64 (gf k ps[k]).mo)).setCell ⟨(w1.heap.size + 1), k * 5 + 4, none⟩ (.int .i64 (gf k ps[k]).co)).cell? ⟨w1.heap.size, 1, none⟩ = some (.slice (some ⟨(w1.heap.size + 1), 0, none⟩) ps.length ps.length) := (World.cell?_setCell_other _ _ _ _ (by intro h; injection h with h1 h2; omega)).trans ((World.cell?_setCell_other _ _ _ _ (by intro h; injection h with h1 h2; omega)).trans ((World.cell?_setCell_other _ _ _ _ (by intro h; injection h with h1 h2; omega)).trans ((World.cell?_setCell_other _ _ _ _ (by intro h; injection h with h1 h2; omega)).trans ((World.cell?_setCell_other _ _ _ _ (by intro h; injection h with h1 h2; omega)).trans ((hb9.cell (p := ⟨w1.heap.size, 1, none⟩) (by (first | omega | (simp; done) | (simp; omega) | (simp at *; omega)))).trans d7)))))
          have x1 : (w1.heap.size + 1) < (((((w9.setCell ⟨(w1.heap.size + 1), k * 5, none⟩ (.int .i64 (gf k ps[k]).fr)).setCell ⟨(w1.heap.size + 1), k * 5 + 1, none⟩ (.int .i64 (gf k ps[k]).to)).setCell ⟨(w1.heap.size + 1), k * 5 + 2, none⟩ (.int .i64 (gf k ps[k]).le)).setCell ⟨(w1.heap.size + 1), k * 5 + 3, none⟩ (.int .i64 (gf k ps[k]).mo)).setCell ⟨(w1.heap.size + 1), k * 5 + 4, none⟩ (.int .i64 (gf k ps[k]).co)).heap.size := by simp only [World.size_setCell]; omega
          have x2 : w1.heap.size < (((((w9.setCell ⟨(w1.heap.size + 1), k * 5, none⟩ (.int .i64 (gf k ps[k]).fr)).setCell ⟨(w1.heap.size + 1), k * 5 + 1, none⟩ (.int .i64 (gf k ps[k]).to)).setCell ⟨(w1.heap.size + 1), k * 5 + 2, none⟩ (.int .i64 (gf k ps[k]).le)).setCell ⟨(w1.heap.size + 1), k * 5 + 3, none⟩ (.int .i64 (gf k ps[k]).mo)).setCell ⟨(w1.heap.size + 1), k * 5 + 4, none⟩ (.int .i64 (gf k ps[k]).co)).heap.size := by simp only [World.size_setCell]; omega
          have HE := Lib.hid (And.intro hown9 (And.intro hb10 (And.intro y0 (And.intro y1 (And.intro x1 x2)))))
          clear hown9 hb10 y0 y1 x1 x2 hb9
          go_wp2
          go_roundw
          case rel => exact ⟨k + 1, qs.set k (gf k ps[k]), by omega, by go_num, by simp; exact Hql.out, set_take hq1 Hqk.out (by simp [hlt]), (by with_reducible exact HE.out.1), HE.out.2.2.2.2.1, HE.out.2.2.2.2.2, HE.out.2.2.1, HE.out.2.2.2.1, HE.out.2.1⟩
          case measure => simp [intOf]; omega
      · go_wp2
        have hk2 : k = ps.length := by omega
        subst hk2
        have hz : qs = ps.mapIdx gf := by
          rw [List.take_of_length_le (by omega), List.take_of_length_le (by simp)] at hqk
          exact hqk
        subst hz
        have hfin : Pipes wr w1.heap.size (.slice (some ⟨(w1.heap.size + 1), 0, none⟩) ps.length ps.length) (ps.mapIdx gf) := ⟨by simpa using hown, by simp [small]; omega⟩
        refine bodyPost_ret (v := .agg #[.int .i64 n, .slice (some ⟨(w1.heap.size + 1), 0, none⟩) ps.length ps.length]) (by simp [results, Try.results80, go_sem, e2, e3]) rfl ⟨_, rfl, ?_, by (repeat (first | (with_reducible assumption) | (with_reducible exact Below.refl _ _) | ((with_reducible refine Below.alloc ?_ ?hsz _); (case hsz => (first | omega | (simp; done) | (simp; omega) | (simp at *; omega)))) | ((with_reducible refine Below.setCell ?_ ?hsz _); (case hsz => (first | omega | (simp; done) | (simp; omega) | (simp at *; omega)))) | (with_reducible refine Below.drew ?_) | (with_reducible refine below_drewN ?_ _) | ((with_reducible refine Below.trans ?_ (Below.mono (by with_reducible assumption) ?hsz)); (case hsz => (first | omega | (simp; done) | (simp; omega) | (simp at *; omega))))))⟩
        exact ((hfin.setLow (by omega)).setLow (by omega)).mono (by omega)

set_option maxHeartbeats 1000000 in
set_option maxRecDepth 20000 in
theorem turned_any (n : Int) (v : Value) (ps : List Pp) (b : Nat) (w : World) (hp : Pipes w b v ps) :
    Calls Try.prog 31 #[.agg #[.int .i64 n, v]] w fun e w' => ∃ s, e = .returned (.agg #[.int .i64 (turnN n ps), s]) ∧ Pipes w' w.heap.size s (turnL n ps) ∧ Below w.heap.size w w' := by
  have hp0 := hp
  obtain ⟨A, c, rfl, hc1, hc2, hs, hcell⟩ := hp.form
  unfold maxLen at hc2
  go_enter Try.func31, Try.ntmps31
  go_wp2_with (first
    | (go_at_call 63; ((with_reducible refine (netOk_any n _ ps b _ (hp0.keep (by (repeat (first | (with_reducible assumption) | (with_reducible exact Below.refl _ _) | ((with_reducible refine Below.alloc ?_ ?hsz _); (case hsz => (first | omega | (simp; done) | (simp; omega) | (simp at *; omega)))) | ((with_reducible refine Below.setCell ?_ ?hsz _); (case hsz => (first | omega | (simp; done) | (simp; omega) | (simp at *; omega)))) | (with_reducible refine Below.drew ?_) | (with_reducible refine below_drewN ?_ _) | ((with_reducible refine Below.trans ?_ (Below.mono (by with_reducible assumption) ?hsz)); (case hsz => (first | omega | (simp; done) | (simp; omega) | (simp at *; omega))))))))).mono ?_); rintro e w1 ⟨rfl, hb1⟩; obtain ⟨hc1, hf1, hz1⟩ := bcell hb1; (try simp at hz1); (try have hy1 : w.heap.size < w1.heap.size := by omega); (try have hy2 : w.heap.size + 1 < w1.heap.size := by omega); (try have hy3 : w.heap.size + 1 + 1 < w1.heap.size := by omega))))
  · have hno := turn_no (of_not_t (b := netOkB n ps) (by assumption))
    refine bodyPost_ret (v := .agg #[.int .i64 0, .slice none 0 0]) (by simp [results, Try.results31, go_sem, hc1]) rfl ⟨.slice none 0 0, by rw [hno.1], by rw [hno.2]; exact Pipes_nil _ _, by (repeat (first | (with_reducible assumption) | (with_reducible exact Below.refl _ _) | ((with_reducible refine Below.alloc ?_ ?hsz _); (case hsz => (first | omega | (simp; done) | (simp; omega) | (simp at *; omega)))) | ((with_reducible refine Below.setCell ?_ ?hsz _); (case hsz => (first | omega | (simp; done) | (simp; omega) | (simp at *; omega)))) | (with_reducible refine Below.drew ?_) | (with_reducible refine below_drewN ?_ _) | ((with_reducible refine Below.trans ?_ (Below.mono (by with_reducible assumption) ?hsz)); (case hsz => (first | omega | (simp; done) | (simp; omega) | (simp at *; omega))))))⟩
  · have hyes := Lib.hid (turn_yes (of_not (b := netOkB n ps) (by assumption)))
    have l7 := (netOk_parts (of_not (b := netOkB n ps) (by assumption))).2.2.1
    have hz1 : w.heap.size ≤ w1.heap.size := by (first | omega | (simp; done) | (simp; omega) | (simp at *; omega))
    refine (remTurned_any n _ ps b _ (hp0.keep (by (repeat (first | (with_reducible assumption) | (with_reducible exact Below.refl _ _) | ((with_reducible refine Below.alloc ?_ ?hsz _); (case hsz => (first | omega | (simp; done) | (simp; omega) | (simp at *; omega)))) | ((with_reducible refine Below.setCell ?_ ?hsz _); (case hsz => (first | omega | (simp; done) | (simp; omega) | (simp at *; omega)))) | (with_reducible refine Below.drew ?_) | (with_reducible refine below_drewN ?_ _) | ((with_reducible refine Below.trans ?_ (Below.mono (by with_reducible assumption) ?hsz)); (case hsz => (first | omega | (simp; done) | (simp; omega) | (simp at *; omega)))))))) l7).mono ?_
    rintro e w2 ⟨s, rfl, hq, hb2⟩
    rw [mapIdx_map] at hq
    obtain ⟨A2, c2, hs2, -, -, -, -⟩ := hq.form
    rw [List.length_map] at hs2
    subst hs2
    obtain ⟨hc3, hf3, hz3⟩ := bcell hb2
    have y0 : w2.cell? ⟨w.heap.size + 1, 0, none⟩ = some (.int .i64 0) := (hc3 _ _ (by (first | omega | (simp; done) | (simp; omega) | (simp at *; omega)))).trans ((hc1 _ _ (by (first | omega | (simp; done) | (simp; omega) | (simp at *; omega)))).trans (by simp))
    have y1 : w2.cell? ⟨w.heap.size + 1, 1, none⟩ = some (.slice none 0 0) := (hc3 _ _ (by (first | omega | (simp; done) | (simp; omega) | (simp at *; omega)))).trans ((hc1 _ _ (by (first | omega | (simp; done) | (simp; omega) | (simp at *; omega)))).trans (by simp))
    go_wp2
    refine bodyPost_ret (v := .agg #[.int .i64 n, .slice A2 ps.length c2]) (by simp [results, Try.results31, go_sem, y0, y1]) rfl ⟨_, by rw [hyes.out.1], ?_, by (repeat (first | (with_reducible assumption) | (with_reducible exact Below.refl _ _) | ((with_reducible refine Below.alloc ?_ ?hsz _); (case hsz => (first | omega | (simp; done) | (simp; omega) | (simp at *; omega)))) | ((with_reducible refine Below.setCell ?_ ?hsz _); (case hsz => (first | omega | (simp; done) | (simp; omega) | (simp at *; omega)))) | (with_reducible refine Below.drew ?_) | (with_reducible refine below_drewN ?_ _) | ((with_reducible refine Below.trans ?_ (Below.mono (by with_reducible assumption) ?hsz)); (case hsz => (first | omega | (simp; done) | (simp; omega) | (simp at *; omega))))))⟩
    rw [hyes.out.2]
    exact ((hq.setLow (by (first | omega | (simp; done) | (simp; omega) | (simp at *; omega)))).setLow (by (first | omega | (simp; done) | (simp; omega) | (simp at *; omega)))).mono (by (first | omega | (simp; done) | (simp; omega) | (simp at *; omega)))

end Go.Proofs.Ytobbeofibkpbaaa

/- Contracts of the functions of chapter 11 in the program: UnitNet, WithoutPipes. -/
namespace Go.Proofs.Ytobbeofibkpbaaa
open Go.RowKit

/-- what the operations yield -/
def rmUnitNetV (W : World) (ob gr L k : Nat) (fv : Value) (p q : Pp) : Nat → Value → World → Prop
  | 0, x, _ => x = .pointer (some ⟨ob, 1, none⟩)
  | 1, x, _ => x = .slice (some ⟨gr, 0, none⟩) L L
  | 2, x, _ => x = .int .i64 (k : Int)
  | 3, x, _ => x = fv
  | 4, x, _ => x = .int .i64 (k : Int)
  | 5, x, _ => x = .agg #[.int .i64 p.fr, .int .i64 p.to, .int .i64 p.le, .int .i64 p.mo, .int .i64 p.co]
  | 6, x, _ => x = .agg #[.int .i64 q.fr, .int .i64 q.to, .int .i64 q.le, .int .i64 q.mo, .int .i64 q.co]
  | 7, x, _ => x = .pointer (some ⟨gr, k * 5, none⟩)
  | 8, x, w => x = x ∧ ∃ w', Below W.heap.size W w' ∧ w = ((((w'.setCell ⟨gr, k * 5, none⟩ (.int .i64 q.fr)).setCell ⟨gr, k * 5 + 1, none⟩ (.int .i64 q.to)).setCell ⟨gr, k * 5 + 2, none⟩ (.int .i64 q.le)).setCell ⟨gr, k * 5 + 3, none⟩ (.int .i64 q.mo)).setCell ⟨gr, k * 5 + 4, none⟩ (.int .i64 q.co)
  | _, _, _ => True

set_option maxHeartbeats 8000000 in
set_option maxRecDepth 20000 in
theorem remUnit_any (n : Int) (v : Value) (ps : List Pp) (b : Nat) (w : World) (hp : Pipes w b v ps) (l7 : ps.length ≤ 7) :
    Calls Try.prog 80 #[.agg #[.int .i64 n, v], .func (Fn.func 108) #[] #[]] w fun e w' => ∃ s, e = .returned (.agg #[.int .i64 n, s]) ∧ Pipes w' w.heap.size s (ps.mapIdx (fun _ p => unitP p)) ∧ Below w.heap.size w w' := by
  have hp0 := hp
  obtain ⟨A, c, rfl, hc1, hc2, hs, hcell⟩ := hp.form
  unfold maxLen at hc2
  have hmk := fun W => run_make_pipes hs W
  obtain ⟨gf, hg⟩ : ∃ gf : Nat → Pp → Pp, gf = fun _ p => unitP p := ⟨_, rfl⟩
  rw [← hg]
  have HG := Lib.hid hg
  clear hg
  obtain ⟨w1, hw1⟩ : ∃ W, W = (w.alloc (.cells #[.int .i64 n, .slice A ps.length c] 25)).alloc (.cells #[.int .i64 0, .slice none 0 0] 25) := ⟨_, rfl⟩
  have hb1 : Below w.heap.size w w1 := by rw [hw1]; (repeat (first | (with_reducible assumption) | (with_reducible exact Below.refl _ _) | ((with_reducible refine Below.alloc ?_ ?hsz _); (case hsz => (first | omega | (simp; done) | (simp; omega) | (simp at *; omega)))) | ((with_reducible refine Below.setCell ?_ ?hsz _); (case hsz => (first | omega | (simp; done) | (simp; omega) | (simp at *; omega)))) | (with_reducible refine Below.drew ?_) | (with_reducible refine below_drewN ?_ _) | ((with_reducible refine Below.trans ?_ (Below.mono (by with_reducible assumption) ?hsz)); (case hsz => (first | omega | (simp; done) | (simp; omega) | (simp at *; omega))))))
  have hz1 : w.heap.size + 2 ≤ w1.heap.size := by rw [hw1]; simp
  have s00 : w.heap.size < w1.heap.size := by omega
  have s01 : w.heap.size + 1 < w1.heap.size := by omega
  have s02 : w.heap.size ≠ w1.heap.size := by omega
  have s03 : w.heap.size + 1 ≠ w1.heap.size := by omega
  have q0 : w1.cell? ⟨w.heap.size, 0, none⟩ = some (.int .i64 n) := by rw [hw1]; go_simp
  have q1 : w1.cell? ⟨w.heap.size, 1, none⟩ = some (.slice A ps.length c) := by rw [hw1]; go_simp
  have q2 : w1.cell? ⟨w.heap.size + 1, 0, none⟩ = some (.int .i64 0) := by rw [hw1]; go_simp
  have q3 : w1.cell? ⟨w.heap.size + 1, 1, none⟩ = some (.slice none 0 0) := by rw [hw1]; go_simp
  have z2 : w1.frozen? ⟨w.heap.size + 1, 0, none⟩ = false := by rw [hw1]; go_simp
  have z3 : w1.frozen? ⟨w.heap.size + 1, 1, none⟩ = false := by rw [hw1]; go_simp
  go_enter Try.func80, Try.ntmps80
  go_wp2_with fail
  rw [← hw1]
  clear hw1
  go_region
  all_goals go_wp2
  · go_loopw [18] (fun i wr => ∃ (k : Nat) (qs : List Pp), k ≤ ps.length ∧ i = .int .i64 k ∧ qs.length = ps.length ∧ qs.take k = (ps.mapIdx gf).take k ∧
        wr.ownsRow w1.heap.size 45 5 (.slice (some ⟨w1.heap.size, 0, none⟩) ps.length ps.length) ps.length (qs.flatMap Pp.cells) ∧ w1.heap.size < wr.heap.size ∧ (w1.heap.size + 1) < wr.heap.size ∧
        wr.cell? ⟨(w1.heap.size + 1), 0, none⟩ = some (.int .i64 n) ∧ wr.cell? ⟨(w1.heap.size + 1), 1, none⟩ = some (.slice (some ⟨w1.heap.size, 0, none⟩) ps.length ps.length) ∧ Below w1.heap.size w1 wr) (fun i _ => ps.length - (intOf i).toNat)
    case atStart =>
      exact ⟨0, List.replicate ps.length zeroPp, by omega, rfl, by simp, by simp, by exact (made_pipes w1 ps.length _ _ (by omega) (by omega)).alloc _, by (first | omega | (simp; done) | (simp; omega) | (simp at *; omega)), by (first | omega | (simp; done) | (simp; omega) | (simp at *; omega)), by simp, by simp, by (repeat (first | (with_reducible assumption) | (with_reducible exact Below.refl _ _) | ((with_reducible refine Below.alloc ?_ ?hsz _); (case hsz => (first | omega | (simp; done) | (simp; omega) | (simp at *; omega)))) | ((with_reducible refine Below.setCell ?_ ?hsz _); (case hsz => (first | omega | (simp; done) | (simp; omega) | (simp at *; omega)))) | (with_reducible refine Below.drew ?_) | (with_reducible refine below_drewN ?_ _) | ((with_reducible refine Below.trans ?_ (Below.mono (by with_reducible assumption) ?hsz)); (case hsz => (first | omega | (simp; done) | (simp; omega) | (simp at *; omega))))))⟩
    case round =>
      obtain ⟨k, qs, hk, rfl, hql, hqk, hown, s1, s2, d6, d7, hb⟩ := hrel
      have hbz := hb.size
      have e0 := (hb.cell (p := ⟨w.heap.size, 0, none⟩) (by (first | omega | (simp; done) | (simp; omega) | (simp at *; omega)))).trans q0
      have e1 := (hb.cell (p := ⟨w.heap.size, 1, none⟩) (by (first | omega | (simp; done) | (simp; omega) | (simp at *; omega)))).trans q1
      have e2 := (hb.cell (p := ⟨w.heap.size + 1, 0, none⟩) (by (first | omega | (simp; done) | (simp; omega) | (simp at *; omega)))).trans q2
      have e3 := (hb.cell (p := ⟨w.heap.size + 1, 1, none⟩) (by (first | omega | (simp; done) | (simp; omega) | (simp at *; omega)))).trans q3
      have f2 := (hb.frozen (p := ⟨w.heap.size + 1, 0, none⟩) (by (first | omega | (simp; done) | (simp; omega) | (simp at *; omega)))).trans z2
      have f3 := (hb.frozen (p := ⟨w.heap.size + 1, 1, none⟩) (by (first | omega | (simp; done) | (simp; omega) | (simp at *; omega)))).trans z3
      have hbw : Below w.heap.size w wr := hb1.trans (hb.mono (by omega))
      by_cases hlt : k < ps.length
      · obtain ⟨g, rfl, hg1, hg2, c0, c1, c2, c3, c4⟩ := hcell wr hbw k hlt
        have hgr : g < wr.heap.size := by omega
        have hq1 : k < qs.length := by omega
        obtain ⟨W7, hW7⟩ : ∃ W, W = wr.alloc (.cells #[.int .i64 ps[k].fr, .int .i64 ps[k].to, .int .i64 ps[k].le, .int .i64 ps[k].mo, .int .i64 ps[k].co] 45) := ⟨_, rfl⟩
        have hb77 : Below wr.heap.size wr W7 := by rw [hW7]; (repeat (first | (with_reducible assumption) | (with_reducible exact Below.refl _ _) | ((with_reducible refine Below.alloc ?_ ?hsz _); (case hsz => (first | omega | (simp; done) | (simp; omega) | (simp at *; omega)))) | ((with_reducible refine Below.setCell ?_ ?hsz _); (case hsz => (first | omega | (simp; done) | (simp; omega) | (simp at *; omega)))) | (with_reducible refine Below.drew ?_) | (with_reducible refine below_drewN ?_ _) | ((with_reducible refine Below.trans ?_ (Below.mono (by with_reducible assumption) ?hsz)); (case hsz => (first | omega | (simp; done) | (simp; omega) | (simp at *; omega))))))
        have hz7 : wr.heap.size + 1 ≤ W7.heap.size := by rw [hW7]; simp
        have hb7 : Below w1.heap.size w1 W7 := hb.trans (hb77.mono (by omega))
        have hw7 : Below w.heap.size w W7 := hb1.trans (hb7.mono (by omega))
        have p0 : W7.cell? ⟨wr.heap.size, 0, none⟩ = some (.int .i64 ps[k].fr) := by rw [hW7]; go_simp
        have p1 : W7.cell? ⟨wr.heap.size, 1, none⟩ = some (.int .i64 ps[k].to) := by rw [hW7]; go_simp
        have p2 : W7.cell? ⟨wr.heap.size, 2, none⟩ = some (.int .i64 ps[k].le) := by rw [hW7]; go_simp
        have p3 : W7.cell? ⟨wr.heap.size, 3, none⟩ = some (.int .i64 ps[k].mo) := by rw [hW7]; go_simp
        have p4 : W7.cell? ⟨wr.heap.size, 4, none⟩ = some (.int .i64 ps[k].co) := by rw [hW7]; go_simp
        have hcl : ∀ W, Below W7.heap.size W7 W → Calls Try.prog 108 (#[.int .i64 (k : Int), .agg #[.int .i64 ps[k].fr, .int .i64 ps[k].to, .int .i64 ps[k].le, .int .i64 ps[k].mo, .int .i64 ps[k].co]] ++ #[]) W fun e w' => e = .returned (.agg #[.int .i64 (gf k ps[k]).fr, .int .i64 (gf k ps[k]).to, .int .i64 (gf k ps[k]).le, .int .i64 (gf k ps[k]).mo, .int .i64 (gf k ps[k]).co]) ∧ Below W.heap.size W w' := by
          intro wx hB
          have hw7z := hw7.size
          have hBz := hB.size
          rw [HG.out]
          exact unitFn_any (k : Int) ps[k] wx
        have HO7 := Lib.hid (own_keep hown (Nat.le_refl _) hb77)
        have D67 := And.intro ((hb77.cell (p := ⟨(w1.heap.size + 1), 0, none⟩) s2).trans d6) ((hb77.cell (p := ⟨(w1.heap.size + 1), 1, none⟩) s2).trans d7)
        have Hql := Lib.hid hql
        have Hqk := Lib.hid hqk
        have hlz : ps.length ≤ 7 := l7
        clear hql hqk hown hb77
        go_wp2_with fail
        rw [← hW7]
        clear d6 d7 e0 e1 e2 e3 f2 f3 c0 c1 c2 c3 c4 hW7
        obtain ⟨d6, d7⟩ := D67
        refine wp_region_flowL 9 none [(0, 23), (1, 24), (2, 25), (3, 26), (4, 27), (5, 28), (6, 29), (7, 30)] (fun j x _ wx => rmUnitNetV W7 (w1.heap.size + 1) w1.heap.size ps.length k (.func (Fn.func 108) #[] #[]) ps[k] (gf k ps[k]) j x wx) (fun i wx wy => if i = 8 then True else Below wx.heap.size wx wy) (fun f wx => 1 ≤ f → Below W7.heap.size W7 wx) (by kernel_rfl) (by kernel_rfl) rfl (fun _ => ⟨rfl, rfl, rfl, Nat.le_refl _, fun _ _ => rfl⟩) ?_ ?_ ?_ ?_
        · intro i k hi hk hal x u wa wb hR hV
          have hk' : k < 9 := hk
          have hi' : i < 9 := hi
          by_cases nn : k = 8
          · subst nn
            exfalso
            rcases i with _ | _ | _ | _ | _ | _ | _ | _ | _ | i
            all_goals (first | omega | (revert hal; decide))
          · rcases k with _ | _ | _ | _ | _ | _ | _ | _ | _ | k
            all_goals first
              | exact hV
              | (exfalso; omega)
        · exact fun _ _ _ _ _ _ _ h => h
        · simp (maxSteps := 4000000) only [eachOp, fillF, List.setIfInBounds_toArray, List.set_cons_succ, List.set_cons_zero]
          refine ⟨?_, ?_, ?_, ?_, ?_, ?_, ?_, ?_, ?_, trivial⟩ <;> intro u f wx hC hd hf <;> (try simp [allV, useOf, Region.binds] at hd)
          · have hf1 : 1 ≤ f := Nat.le_trans (by decide) hf.1
            have hB := hC (by omega)
            clear hf
            have hBz := hB.size
            go_wp2
            first | exact ⟨_, rfl, rfl, Below.refl _ _, fun _ => hB⟩ | exact ⟨_, rfl, rfl, Below.refl _ _, hB⟩
          · rw [show u 0 = _ from (by first | exact hd | exact hd.1 | exact hd.2 | exact hd.2.1 | exact hd.2.2 | exact hd.2.2.1 | exact hd.2.2.2 | exact hd.2.2.2.1 | exact hd.2.2.2.2)]
            have hf1 : 1 ≤ f := Nat.le_trans (by decide) hf.1
            have hB := hC (by omega)
            clear hf
            have hBz := hB.size
            have e9 := (hB.cell (p := ⟨(w1.heap.size + 1), 1, none⟩) (by (first | omega | (simp; done) | (simp; omega) | (simp at *; omega)))).trans d7
            go_wp2
            first | exact ⟨_, rfl, rfl, Below.refl _ _, fun _ => hB⟩ | exact ⟨_, rfl, rfl, Below.refl _ _, hB⟩
          · have hf1 : 1 ≤ f := Nat.le_trans (by decide) hf.1
            have hB := hC (by omega)
            clear hf
            have hBz := hB.size
            go_wp2
            first | exact ⟨_, rfl, rfl, Below.refl _ _, fun _ => hB⟩ | exact ⟨_, rfl, rfl, Below.refl _ _, hB⟩
          · have hf1 : 1 ≤ f := Nat.le_trans (by decide) hf.1
            have hB := hC (by omega)
            clear hf
            have hBz := hB.size
            go_wp2
            first | exact ⟨_, rfl, rfl, Below.refl _ _, fun _ => hB⟩ | exact ⟨_, rfl, rfl, Below.refl _ _, hB⟩
          · have hf1 : 1 ≤ f := Nat.le_trans (by decide) hf.1
            have hB := hC (by omega)
            clear hf
            have hBz := hB.size
            go_wp2
            first | exact ⟨_, rfl, rfl, Below.refl _ _, fun _ => hB⟩ | exact ⟨_, rfl, rfl, Below.refl _ _, hB⟩
          · have hf1 : 1 ≤ f := Nat.le_trans (by decide) hf.1
            have hB := hC (by omega)
            clear hf
            have hBz := hB.size
            have e10 := (hB.cell (p := ⟨wr.heap.size, 0, none⟩) (by (first | omega | (simp; done) | (simp; omega) | (simp at *; omega)))).trans p0
            have e11 := (hB.cell (p := ⟨wr.heap.size, 1, none⟩) (by (first | omega | (simp; done) | (simp; omega) | (simp at *; omega)))).trans p1
            have e12 := (hB.cell (p := ⟨wr.heap.size, 2, none⟩) (by (first | omega | (simp; done) | (simp; omega) | (simp at *; omega)))).trans p2
            have e13 := (hB.cell (p := ⟨wr.heap.size, 3, none⟩) (by (first | omega | (simp; done) | (simp; omega) | (simp at *; omega)))).trans p3
            have e14 := (hB.cell (p := ⟨wr.heap.size, 4, none⟩) (by (first | omega | (simp; done) | (simp; omega) | (simp at *; omega)))).trans p4
            go_wp2
            first | exact ⟨_, rfl, rfl, Below.refl _ _, fun _ => hB⟩ | exact ⟨_, rfl, rfl, Below.refl _ _, hB⟩
          · rw [show u 3 = _ from (by first | exact hd | exact hd.1 | exact hd.2 | exact hd.2.1 | exact hd.2.2 | exact hd.2.2.1 | exact hd.2.2.2 | exact hd.2.2.2.1 | exact hd.2.2.2.2), show u 4 = _ from (by first | exact hd | exact hd.1 | exact hd.2 | exact hd.2.1 | exact hd.2.2 | exact hd.2.2.1 | exact hd.2.2.2 | exact hd.2.2.2.1 | exact hd.2.2.2.2), show u 5 = _ from (by first | exact hd | exact hd.1 | exact hd.2 | exact hd.2.1 | exact hd.2.2 | exact hd.2.2.1 | exact hd.2.2.2 | exact hd.2.2.2.1 | exact hd.2.2.2.2)]
            have hf1 : 1 ≤ f := Nat.le_trans (by decide) hf.1
            have hB := hC (by omega)
            clear hf
            have hBz := hB.size
            go_wp2_with fail
            refine (hcl wx hB).mono ?_
            rintro e wy ⟨rfl, hby⟩
            go_wp2
            first | exact ⟨_, rfl, rfl, hby, fun _ => hB.trans (hby.mono hBz)⟩ | exact ⟨_, rfl, rfl, hby, hB.trans (hby.mono hBz)⟩
          · rw [show u 1 = _ from (by first | exact hd | exact hd.1 | exact hd.2 | exact hd.2.1 | exact hd.2.2 | exact hd.2.2.1 | exact hd.2.2.2 | exact hd.2.2.2.1 | exact hd.2.2.2.2), show u 2 = _ from (by first | exact hd | exact hd.1 | exact hd.2 | exact hd.2.1 | exact hd.2.2 | exact hd.2.2.1 | exact hd.2.2.2 | exact hd.2.2.2.1 | exact hd.2.2.2.2)]
            have hf1 : 1 ≤ f := Nat.le_trans (by decide) hf.1
            have hB := hC (by omega)
            clear hf
            have hBz := hB.size
            go_wp2
            first | exact ⟨_, rfl, rfl, Below.refl _ _, fun _ => hB⟩ | exact ⟨_, rfl, rfl, Below.refl _ _, hB⟩
          · rw [show u 7 = _ from (by first | exact hd | exact hd.1 | exact hd.2 | exact hd.2.1 | exact hd.2.2 | exact hd.2.2.1 | exact hd.2.2.2 | exact hd.2.2.2.1 | exact hd.2.2.2.2), show u 6 = _ from (by first | exact hd | exact hd.1 | exact hd.2 | exact hd.2.1 | exact hd.2.2 | exact hd.2.2.1 | exact hd.2.2.2 | exact hd.2.2.2.1 | exact hd.2.2.2.2)]
            have hf2 := hf.2
            have hB := hC (by omega)
            clear hf
            have hBz := hB.size
            have hown9 := own_keep HO7.out (Nat.le_refl _) hB
            obtain ⟨hgx, ⟨o0, o1, o2, o3, o4⟩, hof⟩ := own_cells5 (k := k) hown9 hq1
            have k0 := hof (k * 5)
            have k1 := hof (k * 5 + 1)
            have k2 := hof (k * 5 + 2)
            have k3 := hof (k * 5 + 3)
            have k4 := hof (k * 5 + 4)
            clear hof hown9
            go_wp2
            exact ⟨undef, rfl, ⟨rfl, _, hB, rfl⟩, (if_pos rfl ▸ trivial : (if (8 : Nat) = 8 then True else _)), fun h => absurd h (by have := Nat.le_trans hf2 (by decide : _ ≤ 0); omega)⟩
        · intro u f wx hC hfin
          simp only [fillEnd, fillF, Act.put, List.setIfInBounds_toArray, List.set_cons_succ, List.set_cons_zero]
          obtain ⟨-, w9, hb9, hw9⟩ := hfin 8 (by decide) (by decide)
          subst hw9
          clear hfin hC
          have hz9 := hb9.size
          have hown9 := own_set5 (k := k) (own_keep HO7.out (Nat.le_refl _) hb9) hq1 (gf k ps[k])
          have hg9 : w1.heap.size < w9.heap.size := by omega
          have hb10 : Below w1.heap.size w1 (((((w9.setCell ⟨w1.heap.size, k * 5, none⟩ (.int .i64 (gf k ps[k]).fr)).setCell ⟨w1.heap.size, k * 5 + 1, none⟩ (.int .i64 (gf k ps[k]).to)).setCell ⟨w1.heap.size, k * 5 + 2, none⟩ (.int .i64 (gf k ps[k]).le)).setCell ⟨w1.heap.size, k * 5 + 3, none⟩ (.int .i64 (gf k ps[k]).mo)).setCell ⟨w1.heap.size, k * 5 + 4, none⟩ (.int .i64 (gf k ps[k]).co)) := (((((hb7.trans (hb9.mono (by omega))).setCell (p := ⟨w1.heap.size, k * 5, none⟩) (by (first | omega | (simp; done) | (simp; omega) | (simp at *; omega))) _).setCell (p := ⟨w1.heap.size, k * 5 + 1, none⟩) (by (first | omega | (simp; done) | (simp; omega) | (simp at *; omega))) _).setCell (p := ⟨w1.heap.size, k * 5 + 2, none⟩) (by (first | omega | (simp; done) | (simp; omega) | (simp at *; omega))) _).setCell (p := ⟨w1.heap.size, k * 5 + 3, none⟩) (by (first | omega | (simp; done) | (simp; omega) | (simp at *; omega))) _).setCell (p := ⟨w1.heap.size, k * 5 + 4, none⟩) (by (first | omega | (simp; done) | (simp; omega) | (simp at *; omega))) _
          have y0 : (((((w9.setCell ⟨w1.heap.size, k * 5, none⟩ (.int .i64 (gf k ps[k]).fr)).setCell ⟨w1.heap.size, k * 5 + 1, none⟩ (.int .i64 (gf k ps[k]).to)).setCell ⟨w1.heap.size, k * 5 + 2, none⟩ (.int .i64 (gf k ps[k]).le)).setCell ⟨w1.heap.size, k * 5 + 3, none⟩ (.int .i64 (gf k ps[k]).mo)).setCell ⟨w1.heap.size, k * 5 + 4, none⟩ (.int .i64 (gf k ps[k]).co)).cell? ⟨(w1.heap.size + 1), 0, none⟩ = some (.int .i64 n) := (World.cell?_setCell_other _ _ _ _ (by intro h; injection h with h1 h2; omega)).trans ((World.cell?_setCell_other _ _ _ _ (by intro h; injection h with h1 h2; omega)).trans ((World.cell?_setCell_other _ _ _ _ (by intro h; injection h with h1 h2; omega)).trans ((World.cell?_setCell_other _ _ _ _ (by intro h; injection h with h1 h2; omega)).trans ((World.cell?_setCell_other _ _ _ _ (by intro h; injection h with h1 h2; omega)).trans ((hb9.cell (p := ⟨(w1.heap.size + 1), 0, none⟩) (by (first | omega | (simp; done) | (simp; omega) | (simp at *; omega)))).trans d6)))))
          have y1 : (((((w9.setCell ⟨w1.heap.size, k * 5, none⟩ (.int .i64 (gf k ps[k]).fr)).setCell ⟨w1.heap.size, k * 5 + 1, none⟩ (.int .i64 (gf k ps[k]).to)).setCell ⟨w1.heap.size, k * 5 + 2, none⟩ (.int .i64 (gf k ps[k]).le)).setCell ⟨w1.heap.size, k * 5 + 3, none⟩ (.int .i64 (gf k ps[k]).mo)).setCell ⟨w1.heap.size, k * 5 + 4, none⟩ (.int .i64 (gf k ps[k]).co)).cell? ⟨(w1.heap.size + 1), 1, none⟩ = some (.slice (some ⟨w1.heap.size, 0, none⟩) ps.length ps.length) := (World.cell?_setCell_other _ _ _ _ (by intro h; injection h with h1 h2; omega)).trans ((World.cell?_setCell_other _ _ _ _ (by intro h; injection h with h1 h2; omega)).trans ((World.cell?_setCell_other _ _ _ _ (by intro h; injection h with h1 h2; omega)).trans ((World.cell?_setCell_other _ _ _ _ (by intro h; injection h with h1 h2; omega)).trans ((World.cell?_setCell_other _ _ _ _ (by intro h; injection h with h1 h2; omega)).trans ((hb9.cell (p := ⟨(w1.heap.size + 1), 1, none⟩) (by (first | omega | (simp; done) | (simp; omega) | (simp at *; omega)))).trans d7)))))
          have x1 : w1.heap.size < (((((w9.setCell ⟨w1.heap.size, k * 5, none⟩ (.int .i64 (gf k ps[k]).fr)).setCell ⟨w1.heap.size, k * 5 + 1, none⟩ (.int .i64 (gf k ps[k]).to)).setCell ⟨w1.heap.size, k * 5 + 2, none⟩ (.int .i64 (gf k ps[k]).le)).setCell ⟨w1.heap.size, k * 5 + 3, none⟩ (.int .i64 (gf k ps[k]).mo)).setCell ⟨w1.heap.size, k * 5 + 4, none⟩ (.int .i64 (gf k ps[k]).co)).heap.size := by simp only [World.size_setCell]; omega
          have x2 : (w1.heap.size + 1) < (((((w9.setCell ⟨w1.heap.size, k * 5, none⟩ (.int .i64 (gf k ps[k]).fr)).setCell ⟨w1.heap.size, k * 5 + 1, none⟩ (.int .i64 (gf k ps[k]).to)).setCell ⟨w1.heap.size, k * 5 + 2, none⟩ (.int .i64 (gf k ps[k]).le)).setCell ⟨w1.heap.size, k * 5 + 3, none⟩ (.int .i64 (gf k ps[k]).mo)).setCell ⟨w1.heap.size, k * 5 + 4, none⟩ (.int .i64 (gf k ps[k]).co)).heap.size := by simp only [World.size_setCell]; omega
          have HE := Lib.hid (And.intro hown9 (And.intro hb10 (And.intro y0 (And.intro y1 (And.intro x1 x2)))))
          clear hown9 hb10 y0 y1 x1 x2 hb9
          go_wp2
          go_roundw
          case rel => exact ⟨k + 1, qs.set k (gf k ps[k]), by omega, by go_num, by simp; exact Hql.out, set_take hq1 Hqk.out (by simp [hlt]), (by with_reducible exact HE.out.1), HE.out.2.2.2.2.1, HE.out.2.2.2.2.2, HE.out.2.2.1, HE.out.2.2.2.1, HE.out.2.1⟩
          case measure => simp [intOf]; omega
      · go_wp2
        have hk2 : k = ps.length := by omega
        subst hk2
        have hz : qs = ps.mapIdx gf := by
          rw [List.take_of_length_le (by omega), List.take_of_length_le (by simp)] at hqk
          exact hqk
        subst hz
        have hfin : Pipes wr w1.heap.size (.slice (some ⟨w1.heap.size, 0, none⟩) ps.length ps.length) (ps.mapIdx gf) := ⟨by simpa using hown, by simp [small]; omega⟩
        refine bodyPost_ret (v := .agg #[.int .i64 n, .slice (some ⟨w1.heap.size, 0, none⟩) ps.length ps.length]) (by simp [results, Try.results80, go_sem, e2, e3]) rfl ⟨_, rfl, ?_, by (repeat (first | (with_reducible assumption) | (with_reducible exact Below.refl _ _) | ((with_reducible refine Below.alloc ?_ ?hsz _); (case hsz => (first | omega | (simp; done) | (simp; omega) | (simp at *; omega)))) | ((with_reducible refine Below.setCell ?_ ?hsz _); (case hsz => (first | omega | (simp; done) | (simp; omega) | (simp at *; omega)))) | (with_reducible refine Below.drew ?_) | (with_reducible refine below_drewN ?_ _) | ((with_reducible refine Below.trans ?_ (Below.mono (by with_reducible assumption) ?hsz)); (case hsz => (first | omega | (simp; done) | (simp; omega) | (simp at *; omega))))))⟩
        exact ((hfin.setLow (by omega)).setLow (by omega)).mono (by omega)
  · go_loopw [18] (fun i wr => ∃ (k : Nat) (qs : List Pp), k ≤ ps.length ∧ i = .int .i64 k ∧ qs.length = ps.length ∧ qs.take k = (ps.mapIdx gf).take k ∧
        wr.ownsRow w1.heap.size 45 5 (.slice (some ⟨(w1.heap.size + 1), 0, none⟩) ps.length ps.length) ps.length (qs.flatMap Pp.cells) ∧ (w1.heap.size + 1) < wr.heap.size ∧ w1.heap.size < wr.heap.size ∧
        wr.cell? ⟨w1.heap.size, 0, none⟩ = some (.int .i64 n) ∧ wr.cell? ⟨w1.heap.size, 1, none⟩ = some (.slice (some ⟨(w1.heap.size + 1), 0, none⟩) ps.length ps.length) ∧ Below w1.heap.size w1 wr) (fun i _ => ps.length - (intOf i).toNat)
    case atStart =>
      exact ⟨0, List.replicate ps.length zeroPp, by omega, rfl, by simp, by simp, by have h := made_pipes (w1.alloc (.cells #[.int .i64 n, .slice (some ⟨w1.heap.size + 1, 0, none⟩) ps.length ps.length] 25)) ps.length 45 w1.heap.size (by (first | omega | (simp; done) | (simp; omega) | (simp at *; omega))) (by omega); rw [World.size_alloc] at h; exact h, by (first | omega | (simp; done) | (simp; omega) | (simp at *; omega)), by (first | omega | (simp; done) | (simp; omega) | (simp at *; omega)), by simp, by simp, by (repeat (first | (with_reducible assumption) | (with_reducible exact Below.refl _ _) | ((with_reducible refine Below.alloc ?_ ?hsz _); (case hsz => (first | omega | (simp; done) | (simp; omega) | (simp at *; omega)))) | ((with_reducible refine Below.setCell ?_ ?hsz _); (case hsz => (first | omega | (simp; done) | (simp; omega) | (simp at *; omega)))) | (with_reducible refine Below.drew ?_) | (with_reducible refine below_drewN ?_ _) | ((with_reducible refine Below.trans ?_ (Below.mono (by with_reducible assumption) ?hsz)); (case hsz => (first | omega | (simp; done) | (simp; omega) | (simp at *; omega))))))⟩
    case round =>
      obtain ⟨k, qs, hk, rfl, hql, hqk, hown, s1, s2, d6, d7, hb⟩ := hrel
      have hbz := hb.size
      have e0 := (hb.cell (p := ⟨w.heap.size, 0, none⟩) (by (first | omega | (simp; done) | (simp; omega) | (simp at *; omega)))).trans q0
      have e1 := (hb.cell (p := ⟨w.heap.size, 1, none⟩) (by (first | omega | (simp; done) | (simp; omega) | (simp at *; omega)))).trans q1
      have e2 := (hb.cell (p := ⟨w.heap.size + 1, 0, none⟩) (by (first | omega | (simp; done) | (simp; omega) | (simp at *; omega)))).trans q2
      have e3 := (hb.cell (p := ⟨w.heap.size + 1, 1, none⟩) (by (first | omega | (simp; done) | (simp; omega) | (simp at *; omega)))).trans q3
      have f2 := (hb.frozen (p := ⟨w.heap.size + 1, 0, none⟩) (by (first | omega | (simp; done) | (simp; omega) | (simp at *; omega)))).trans z2
      have f3 := (hb.frozen (p := ⟨w.heap.size + 1, 1, none⟩) (by (first | omega | (simp; done) | (simp; omega) | (simp at *; omega)))).trans z3
      have hbw : Below w.heap.size w wr := hb1.trans (hb.mono (by omega))
      by_cases hlt : k < ps.length
      · obtain ⟨g, rfl, hg1, hg2, c0, c1, c2, c3, c4⟩ := hcell wr hbw k hlt
        have hgr : g < wr.heap.size := by omega
        have hq1 : k < qs.length := by omega
        obtain ⟨W7, hW7⟩ : ∃ W, W = wr.alloc (.cells #[.int .i64 ps[k].fr, .int .i64 ps[k].to, .int .i64 ps[k].le, .int .i64 ps[k].mo, .int .i64 ps[k].co] 45) := ⟨_, rfl⟩
        have hb77 : Below wr.heap.size wr W7 := by rw [hW7]; (repeat (first | (with_reducible assumption) | (with_reducible exact Below.refl _ _) | ((with_reducible refine Below.alloc ?_ ?hsz _); (case hsz => (first | omega | (simp; done) | (simp; omega) | (simp at *; omega)))) | ((with_reducible refine Below.setCell ?_ ?hsz _); (case hsz => (first | omega | (simp; done) | (simp; omega) | (simp at *; omega)))) | (with_reducible refine Below.drew ?_) | (with_reducible refine below_drewN ?_ _) | ((with_reducible refine Below.trans ?_ (Below.mono (by with_reducible assumption) ?hsz)); (case hsz => (first | omega | (simp; done) | (simp; omega) | (simp at *; omega))))))
        have hz7 : wr.heap.size + 1 ≤ W7.heap.size := by rw [hW7]; simp
        have hb7 : Below w1.heap.size w1 W7 := hb.trans (hb77.mono (by omega))
        have hw7 : Below w.heap.size w W7 := hb1.trans (hb7.mono (by omega))
        have p0 : W7.cell? ⟨wr.heap.size, 0, none⟩ = some (.int .i64 ps[k].fr) := by rw [hW7]; go_simp
        have p1 : W7.cell? ⟨wr.heap.size, 1, none⟩ = some (.int .i64 ps[k].to) := by rw [hW7]; go_simp
        have p2 : W7.cell? ⟨wr.heap.size, 2, none⟩ = some (.int .i64 ps[k].le) := by rw [hW7]; go_simp
        have p3 : W7.cell? ⟨wr.heap.size, 3, none⟩ = some (.int .i64 ps[k].mo) := by rw [hW7]; go_simp
        have p4 : W7.cell? ⟨wr.heap.size, 4, none⟩ = some (.int .i64 ps[k].co) := by rw [hW7]; go_simp
        have hcl : ∀ W, Below W7.heap.size W7 W → Calls Try.prog 108 (#[.int .i64 (k : Int), .agg #[.int .i64 ps[k].fr, .int .i64 ps[k].to, .int .i64 ps[k].le, .int .i64 ps[k].mo, .int .i64 ps[k].co]] ++ #[]) W fun e w' => e = .returned (.agg #[.int .i64 (gf k ps[k]).fr, .int .i64 (gf k ps[k]).to, .int .i64 (gf k ps[k]).le, .int .i64 (gf k ps[k]).mo, .int .i64 (gf k ps[k]).co]) ∧ Below W.heap.size W w' := by
          intro wx hB
          have hw7z := hw7.size
          have hBz := hB.size
          rw [HG.out]
          exact unitFn_any (k : Int) ps[k] wx
        have HO7 := Lib.hid (own_keep hown (Nat.le_refl _) hb77)
        have D67 := And.intro ((hb77.cell (p := ⟨w1.heap.size, 0, none⟩) s2).trans d6) ((hb77.cell (p := ⟨w1.heap.size, 1, none⟩) s2).trans d7)
        have Hql := Lib.hid hql
        have Hqk := Lib.hid hqk
        have hlz : ps.length ≤ 7 := l7
        clear hql hqk hown hb77
        go_wp2_with fail
        rw [← hW7]
        clear d6 d7 e0 e1 e2 e3 f2 f3 c0 c1 c2 c3 c4 hW7
        obtain ⟨d6, d7⟩ := D67
        refine wp_region_flowL 9 none [(0, 23), (1, 24), (2, 25), (3, 26), (4, 27), (5, 28), (6, 29), (7, 30)] (fun j x _ wx => rmUnitNetV W7 w1.heap.size (w1.heap.size + 1) ps.length k (.func (Fn.func 108) #[] #[]) ps[k] (gf k ps[k]) j x wx) (fun i wx wy => if i = 8 then True else Below wx.heap.size wx wy) (fun f wx => 1 ≤ f → Below W7.heap.size W7 wx) (by kernel_rfl) (by kernel_rfl) rfl (fun _ => ⟨rfl, rfl, rfl, Nat.le_refl _, fun _ _ => rfl⟩) ?_ ?_ ?_ ?_
        · intro i k hi hk hal x u wa wb hR hV
          have hk' : k < 9 := hk
          have hi' : i < 9 := hi
          by_cases nn : k = 8
          · subst nn
            exfalso
            rcases i with _ | _ | _ | _ | _ | _ | _ | _ | _ | i
            all_goals (first | omega | (revert hal; decide))
          · rcases k with _ | _ | _ | _ | _ | _ | _ | _ | _ | k
            all_goals first
              | exact hV
              | (exfalso; omega)
        · exact fun _ _ _ _ _ _ _ h => h
        · simp (maxSteps := 4000000) only [eachOp, fillF, List.setIfInBounds_toArray, List.set_cons_succ, List.set_cons_zero]
          refine ⟨?_, ?_, ?_, ?_, ?_, ?_, ?_, ?_, ?_, trivial⟩ <;> intro u f wx hC hd hf <;> (try simp [allV, useOf, Region.binds] at hd)
          · have hf1 : 1 ≤ f := Nat.le_trans (by decide) hf.1
            have hB := hC (by omega)
            clear hf
            have hBz := hB.size
            go_wp2
            first | exact ⟨_, rfl, rfl, Below.refl _ _, fun _ => hB⟩ | exact ⟨_, rfl, rfl, Below.refl _ _, hB⟩
          · rw [show u 0 = _ from (by first | exact hd | exact hd.1 | exact hd.2 | exact hd.2.1 | exact hd.2.2 | exact hd.2.2.1 | exact hd.2.2.2 | exact hd.2.2.2.1 | exact hd.2.2.2.2)]
            have hf1 : 1 ≤ f := Nat.le_trans (by decide) hf.1
            have hB := hC (by omega)
            clear hf
            have hBz := hB.size
            have e9 := (hB.cell (p := ⟨w1.heap.size, 1, none⟩) (by (first | omega | (simp; done) | (simp; omega) | (simp at *; omega)))).trans d7
            go_wp2
            first | exact ⟨_, rfl, rfl, Below.refl _ _, fun _ => hB⟩ | exact ⟨_, rfl, rfl, Below.refl _ _, hB⟩
          · have hf1 : 1 ≤ f := Nat.le_trans (by decide) hf.1
            have hB := hC (by omega)
            clear hf
            have hBz := hB.size
            go_wp2
            first | exact ⟨_, rfl, rfl, Below.refl _ _, fun _ => hB⟩ | exact ⟨_, rfl, rfl, Below.refl _ _, hB⟩
          · have hf1 : 1 ≤ f := Nat.le_trans (by decide) hf.1
            have hB := hC (by omega)
            clear hf
            have hBz := hB.size
            go_wp2
            first | exact ⟨_, rfl, rfl, Below.refl _ _, fun _ => hB⟩ | exact ⟨_, rfl, rfl, Below.refl _ _, hB⟩
          · have hf1 : 1 ≤ f := Nat.le_trans (by decide) hf.1
            have hB := hC (by omega)
            clear hf
            have hBz := hB.size
            go_wp2
            first | exact ⟨_, rfl, rfl, Below.refl _ _, fun _ => hB⟩ | exact ⟨_, rfl, rfl, Below.refl _ _, hB⟩
          · have hf1 : 1 ≤ f := Nat.le_trans (by decide) hf.1
            have hB := hC (by omega)
            clear hf
            have hBz := hB.size
            have e10 := (hB.cell (p := ⟨wr.heap.size, 0, none⟩) (by (first | omega | (simp; done) | (simp; omega) | (simp at *; omega)))).trans p0
            have e11 := (hB.cell (p := ⟨wr.heap.size, 1, none⟩) (by (first | omega | (simp; done) | (simp; omega) | (simp at *; omega)))).trans p1
            have e12 := (hB.cell (p := ⟨wr.heap.size, 2, none⟩) (by (first | omega | (simp; done) | (simp; omega) | (simp at *; omega)))).trans p2
            have e13 := (hB.cell (p := ⟨wr.heap.size, 3, none⟩) (by (first | omega | (simp; done) | (simp; omega) | (simp at *; omega)))).trans p3
            have e14 := (hB.cell (p := ⟨wr.heap.size, 4, none⟩) (by (first | omega | (simp; done) | (simp; omega) | (simp at *; omega)))).trans p4
            go_wp2
            first | exact ⟨_, rfl, rfl, Below.refl _ _, fun _ => hB⟩ | exact ⟨_, rfl, rfl, Below.refl _ _, hB⟩
          · rw [show u 3 = _ from (by first | exact hd | exact hd.1 | exact hd.2 | exact hd.2.1 | exact hd.2.2 | exact hd.2.2.1 | exact hd.2.2.2 | exact hd.2.2.2.1 | exact hd.2.2.2.2), show u 4 = _ from (by first | exact hd | exact hd.1 | exact hd.2 | exact hd.2.1 | exact hd.2.2 | exact hd.2.2.1 | exact hd.2.2.2 | exact hd.2.2.2.1 | exact hd.2.2.2.2), show u 5 = _ from (by first | exact hd | exact hd.1 | exact hd.2 | exact hd.2.1 | exact hd.2.2 | exact hd.2.2.1 | exact hd.2.2.2 | exact hd.2.2.2.1 | exact hd.2.2.2.2)]
            have hf1 : 1 ≤ f := Nat.le_trans (by decide) hf.1
            have hB := hC (by omega)
            clear hf
            have hBz := hB.size
            go_wp2_with fail
            refine (hcl wx hB).mono ?_
            rintro e wy ⟨rfl, hby⟩
            go_wp2
            first | exact ⟨_, rfl, rfl, hby, fun _ => hB.trans (hby.mono hBz)⟩ | exact ⟨_, rfl, rfl, hby, hB.trans (hby.mono hBz)⟩
          · rw [show u 1 = _ from (by first | exact hd | exact hd.1 | exact hd.2 | exact hd.2.1 | exact hd.2.2 | exact hd.2.2.1 | exact hd.2.2.2 | exact hd.2.2.2.1 | exact hd.2.2.2.2), show u 2 = _ from (by first | exact hd | exact hd.1 | exact hd.2 | exact hd.2.1 | exact hd.2.2 | exact hd.2.2.1 | exact hd.2.2.2 | exact hd.2.2.2.1 | exact hd.2.2.2.2)]
            have hf1 : 1 ≤ f := Nat.le_trans (by decide) hf.1
            have hB := hC (by omega)
            clear hf
            have hBz := hB.size
            go_wp2
            first | exact ⟨_, rfl, rfl, Below.refl _ _, fun _ => hB⟩ | exact ⟨_, rfl, rfl, Below.refl _ _, hB⟩
          · rw [show u 7 = _ from (by first | exact hd | exact hd.1 | exact hd.2 | exact hd.2.1 | exact hd.2.2 | exact hd.2.2.1 | exact hd.2.2.2 | exact hd.2.2.2.1 | exact hd.2.2.2.2), show u 6 = _ from (by first | exact hd | exact hd.1 | exact hd.2 | exact hd.2.1 | exact hd.2.2 | exact hd.2.2.1 | exact hd.2.2.2 | exact hd.2.2.2.1 | exact hd.2.2.2.2)]
            have hf2 := hf.2
            have hB := hC (by omega)
            clear hf
            have hBz := hB.size
            have hown9 := own_keep HO7.out (Nat.le_refl _) hB
            obtain ⟨hgx, ⟨o0, o1, o2, o3, o4⟩, hof⟩ := own_cells5 (k := k) hown9 hq1
            have k0 := hof (k * 5)
            have k1 := hof (k * 5 + 1)
            have k2 := hof (k * 5 + 2)
            have k3 := hof (k * 5 + 3)
            have k4 := hof (k * 5 + 4)
            clear hof hown9
            go_wp2
            exact ⟨undef, rfl, ⟨rfl, _, hB, rfl⟩, (if_pos rfl ▸ trivial : (if (8 : Nat) = 8 then True else _)), fun h => absurd h (by have := Nat.le_trans hf2 (by decide : _ ≤ 0); omega)⟩
        · intro u f wx hC hfin
          simp only [fillEnd, fillF, Act.put, List.setIfInBounds_toArray, List.set_cons_succ, List.set_cons_zero]
          obtain ⟨-, w9, hb9, hw9⟩ := hfin 8 (by decide) (by decide)
          subst hw9
          clear hfin hC
          have hz9 := hb9.size
          have hown9 := own_set5 (k := k) (own_keep HO7.out (Nat.le_refl _) hb9) hq1 (gf k ps[k])
          have hg9 : (w1.heap.size + 1) < w9.heap.size := by omega
          have hb10 : Below w1.heap.size w1 (((((w9.setCell ⟨(w1.heap.size + 1), k * 5, none⟩ (.int .i64 (gf k ps[k]).fr)).setCell ⟨(w1.heap.size + 1), k * 5 + 1, none⟩ (.int .i64 (gf k ps[k]).to)).setCell ⟨(w1.heap.size + 1), k * 5 + 2, none⟩ (.int .i64 (gf k ps[k]).le)).setCell ⟨(w1.heap.size + 1), k * 5 + 3, none⟩ (.int .i64 (gf k ps[k]).mo)).setCell ⟨(w1.heap.size + 1), k * 5 + 4, none⟩ (.int .i64 (gf k ps[k]).co)) := (((((hb7.trans (hb9.mono (by omega))).setCell (p := ⟨(w1.heap.size + 1), k * 5, none⟩) (by (first | omega | (simp; done) | (simp; omega) | (simp at *; omega))) _).setCell (p := ⟨(w1.heap.size + 1), k * 5 + 1, none⟩) (by (first | omega | (simp; done) | (simp; omega) | (simp at *; omega))) _).setCell (p := ⟨(w1.heap.size + 1), k * 5 + 2, none⟩) (by (first | omega | (simp; done) | (simp; omega) | (simp at *; omega))) _).setCell (p := ⟨(w1.heap.size + 1), k * 5 + 3, none⟩) (by (first | omega | (simp; done) | (simp; omega) | (simp at *; omega))) _).setCell (p := ⟨(w1.heap.size + 1), k * 5 + 4, none⟩) (by (first | omega | (simp; done) | (simp; omega) | (simp at *; omega))) _
          have y0 : (((((w9.setCell ⟨(w1.heap.size + 1), k * 5, none⟩ (.int .i64 (gf k ps[k]).fr)).setCell ⟨(w1.heap.size + 1), k * 5 + 1, none⟩ (.int .i64 (gf k ps[k]).to)).setCell ⟨(w1.heap.size + 1), k * 5 + 2, none⟩ (.int .i64 (gf k ps[k]).le)).setCell ⟨(w1.heap.size + 1), k * 5 + 3, none⟩ (.int .i64 (gf k ps[k]).mo)).setCell ⟨(w1.heap.size + 1), k * 5 + 4, none⟩ (.int .i64 (gf k ps[k]).co)).cell? ⟨w1.heap.size, 0, none⟩ = some (.int .i64 n) := (World.cell?_setCell_other _ _ _ _ (by intro h; injection h with h1 h2; omega)).trans ((World.cell?_setCell_other _ _ _ _ (by intro h; injection h with h1 h2; omega)).trans ((World.cell?_setCell_other _ _ _ _ (by intro h; injection h with h1 h2; omega)).trans ((World.cell?_setCell_other _ _ _ _ (by intro h; injection h with h1 h2; omega)).trans ((World.cell?_setCell_other _ _ _ _ (by intro h; injection h with h1 h2; omega)).trans ((hb9.cell (p := ⟨w1.heap.size, 0, none⟩) (by (first | omega | (simp; done) | (simp; omega) | (simp at *; omega)))).trans d6)))))
          have y1 : (((((w9.setCell ⟨(w1.heap.size + 1), k * 5, none⟩ (.int .i64 (gf k ps[k]).fr)).setCell ⟨(w1.heap.size + 1), k * 5 + 1, none⟩ (.int .i64 (gf k ps[k]).to)).setCell ⟨(w1.heap.size + 1), k * 5 + 2, none⟩ (.int .i64 (gf k ps[k]).le)).setCell ⟨(w1.heap.size + 1), k * 5 + 3, none⟩ (.int .i64 (gf k ps[k]).mo)).setCell ⟨(w1.heap.size + 1), k * 5 + 4, none⟩ (.int .i64 (gf k ps[k]).co)).cell? ⟨w1.heap.size, 1, none⟩ = some (.slice (some ⟨(w1.heap.size + 1), 0, none⟩) ps.length ps.length) := (World.cell?_setCell_other _ _ _ _ (by intro h; injection h with h1 h2; omega)).trans ((World.cell?_setCell_other _ _ _ _ (by intro h; injection h with h1 h2; omega)).trans ((World.cell?_setCell_other _ _ _ _ (by intro h; injection h with h1 h2; omega)).trans ((World.cell?_setCell_other _ _ _ _ (by intro h; injection h with h1 h2; omega)).trans ((World.cell?_setCell_other _ _ _ _ (by intro h; injection h with h1 h2; omega)).trans ((hb9.cell (p := ⟨w1.heap.size, 1, none⟩) (by (first | omega | (simp; done) | (simp; omega) | (simp at *; omega)))).trans d7)))))
          have x1 : (w1.heap.size + 1) < (((((w9.setCell ⟨(w1.heap.size + 1), k * 5, none⟩ (.int .i64 (gf k ps[k]).fr)).setCell ⟨(w1.heap.size + 1), k * 5 + 1, none⟩ (.int .i64 (gf k ps[k]).to)).setCell ⟨(w1.heap.size + 1), k * 5 + 2, none⟩ (.int .i64 (gf k ps[k]).le)).setCell ⟨(w1.heap.size + 1), k * 5 + 3, none⟩ (.int .i64 (gf k ps[k]).mo)).setCell ⟨(w1.heap.size + 1), k * 5 + 4, none⟩ (.int .i64 (gf k ps[k]).co)).heap.size := by simp only [World.size_setCell]; omega
          have x2 : w1.heap.size < (((((w9.setCell ⟨(w1.heap.size + 1), k * 5, none⟩ (.int .i64 (gf k ps[k]).fr)).setCell ⟨(w1.heap.size + 1), k * 5 + 1, none⟩ (.int .i64 (gf k ps[k]).to)).setCell ⟨(w1.heap.size + 1), k * 5 + 2, none⟩ (.int .i64 (gf k ps[k]).le)).setCell ⟨(w1.heap.size + 1), k * 5 + 3, none⟩ (.int .i64 (gf k ps[k]).mo)).setCell ⟨(w1.heap.size + 1), k * 5 + 4, none⟩ (.int .i64 (gf k ps[k]).co)).heap.size := by simp only [World.size_setCell]; omega
          have HE := Lib.hid (And.intro hown9 (And.intro hb10 (And.intro y0 (And.intro y1 (And.intro x1 x2)))))
          clear hown9 hb10 y0 y1 x1 x2 hb9
          go_wp2
          go_roundw
          case rel => exact ⟨k + 1, qs.set k (gf k ps[k]), by omega, by go_num, by simp; exact Hql.out, set_take hq1 Hqk.out (by simp [hlt]), (by with_reducible exact HE.out.1), HE.out.2.2.2.2.1, HE.out.2.2.2.2.2, HE.out.2.2.1, HE.out.2.2.2.1, HE.out.2.1⟩
          case measure => simp [intOf]; omega
      · go_wp2
        have hk2 : k = ps.length := by omega
        subst hk2
        have hz : qs = ps.mapIdx gf := by
          rw [List.take_of_length_le (by omega), List.take_of_length_le (by simp)] at hqk
          exact hqk
        subst hz
        have hfin : Pipes wr w1.heap.size (.slice (some ⟨(w1.heap.size + 1), 0, none⟩) ps.length ps.length) (ps.mapIdx gf) := ⟨by simpa using hown, by simp [small]; omega⟩
        refine bodyPost_ret (v := .agg #[.int .i64 n, .slice (some ⟨(w1.heap.size + 1), 0, none⟩) ps.length ps.length]) (by simp [results, Try.results80, go_sem, e2, e3]) rfl ⟨_, rfl, ?_, by (repeat (first | (with_reducible assumption) | (with_reducible exact Below.refl _ _) | ((with_reducible refine Below.alloc ?_ ?hsz _); (case hsz => (first | omega | (simp; done) | (simp; omega) | (simp at *; omega)))) | ((with_reducible refine Below.setCell ?_ ?hsz _); (case hsz => (first | omega | (simp; done) | (simp; omega) | (simp at *; omega)))) | (with_reducible refine Below.drew ?_) | (with_reducible refine below_drewN ?_ _) | ((with_reducible refine Below.trans ?_ (Below.mono (by with_reducible assumption) ?hsz)); (case hsz => (first | omega | (simp; done) | (simp; omega) | (simp at *; omega))))))⟩
        exact ((hfin.setLow (by omega)).setLow (by omega)).mono (by omega)

set_option maxHeartbeats 1000000 in
set_option maxRecDepth 20000 in
theorem unitNet_any (n : Int) (v : Value) (ps : List Pp) (b : Nat) (w : World) (hp : Pipes w b v ps) :
    Calls Try.prog 50 #[.agg #[.int .i64 n, v]] w fun e w' => ∃ s, e = .returned (.agg #[.int .i64 (unitN n ps), s]) ∧ Pipes w' w.heap.size s (unitL n ps) ∧ Below w.heap.size w w' := by
  have hp0 := hp
  obtain ⟨A, c, rfl, hc1, hc2, hs, hcell⟩ := hp.form
  unfold maxLen at hc2
  go_enter Try.func50, Try.ntmps50
  go_wp2_with (first
    | (go_at_call 63; ((with_reducible refine (netOk_any n _ ps b _ (hp0.keep (by (repeat (first | (with_reducible assumption) | (with_reducible exact Below.refl _ _) | ((with_reducible refine Below.alloc ?_ ?hsz _); (case hsz => (first | omega | (simp; done) | (simp; omega) | (simp at *; omega)))) | ((with_reducible refine Below.setCell ?_ ?hsz _); (case hsz => (first | omega | (simp; done) | (simp; omega) | (simp at *; omega)))) | (with_reducible refine Below.drew ?_) | (with_reducible refine below_drewN ?_ _) | ((with_reducible refine Below.trans ?_ (Below.mono (by with_reducible assumption) ?hsz)); (case hsz => (first | omega | (simp; done) | (simp; omega) | (simp at *; omega))))))))).mono ?_); rintro e w1 ⟨rfl, hb1⟩; obtain ⟨hc1, hf1, hz1⟩ := bcell hb1; (try simp at hz1); (try have hy1 : w.heap.size < w1.heap.size := by omega); (try have hy2 : w.heap.size + 1 < w1.heap.size := by omega); (try have hy3 : w.heap.size + 1 + 1 < w1.heap.size := by omega))))
  · have hno := unit_no (of_not_t (b := netOkB n ps) (by assumption))
    refine bodyPost_ret (v := .agg #[.int .i64 0, .slice none 0 0]) (by simp [results, Try.results50, go_sem, hc1]) rfl ⟨.slice none 0 0, by rw [hno.1], by rw [hno.2]; exact Pipes_nil _ _, by (repeat (first | (with_reducible assumption) | (with_reducible exact Below.refl _ _) | ((with_reducible refine Below.alloc ?_ ?hsz _); (case hsz => (first | omega | (simp; done) | (simp; omega) | (simp at *; omega)))) | ((with_reducible refine Below.setCell ?_ ?hsz _); (case hsz => (first | omega | (simp; done) | (simp; omega) | (simp at *; omega)))) | (with_reducible refine Below.drew ?_) | (with_reducible refine below_drewN ?_ _) | ((with_reducible refine Below.trans ?_ (Below.mono (by with_reducible assumption) ?hsz)); (case hsz => (first | omega | (simp; done) | (simp; omega) | (simp at *; omega))))))⟩
  · have hyes := Lib.hid (unit_yes (of_not (b := netOkB n ps) (by assumption)))
    have l7 := (netOk_parts (of_not (b := netOkB n ps) (by assumption))).2.2.1
    have hz1 : w.heap.size ≤ w1.heap.size := by (first | omega | (simp; done) | (simp; omega) | (simp at *; omega))
    refine (remUnit_any n _ ps b _ (hp0.keep (by (repeat (first | (with_reducible assumption) | (with_reducible exact Below.refl _ _) | ((with_reducible refine Below.alloc ?_ ?hsz _); (case hsz => (first | omega | (simp; done) | (simp; omega) | (simp at *; omega)))) | ((with_reducible refine Below.setCell ?_ ?hsz _); (case hsz => (first | omega | (simp; done) | (simp; omega) | (simp at *; omega)))) | (with_reducible refine Below.drew ?_) | (with_reducible refine below_drewN ?_ _) | ((with_reducible refine Below.trans ?_ (Below.mono (by with_reducible assumption) ?hsz)); (case hsz => (first | omega | (simp; done) | (simp; omega) | (simp at *; omega)))))))) l7).mono ?_
    rintro e w2 ⟨s, rfl, hq, hb2⟩
    rw [mapIdx_map] at hq
    obtain ⟨A2, c2, hs2, -, -, -, -⟩ := hq.form
    rw [List.length_map] at hs2
    subst hs2
    obtain ⟨hc3, hf3, hz3⟩ := bcell hb2
    have y0 : w2.cell? ⟨w.heap.size + 1, 0, none⟩ = some (.int .i64 0) := (hc3 _ _ (by (first | omega | (simp; done) | (simp; omega) | (simp at *; omega)))).trans ((hc1 _ _ (by (first | omega | (simp; done) | (simp; omega) | (simp at *; omega)))).trans (by simp))
    have y1 : w2.cell? ⟨w.heap.size + 1, 1, none⟩ = some (.slice none 0 0) := (hc3 _ _ (by (first | omega | (simp; done) | (simp; omega) | (simp at *; omega)))).trans ((hc1 _ _ (by (first | omega | (simp; done) | (simp; omega) | (simp at *; omega)))).trans (by simp))
    go_wp2
    refine bodyPost_ret (v := .agg #[.int .i64 n, .slice A2 ps.length c2]) (by simp [results, Try.results50, go_sem, y0, y1]) rfl ⟨_, by rw [hyes.out.1], ?_, by (repeat (first | (with_reducible assumption) | (with_reducible exact Below.refl _ _) | ((with_reducible refine Below.alloc ?_ ?hsz _); (case hsz => (first | omega | (simp; done) | (simp; omega) | (simp at *; omega)))) | ((with_reducible refine Below.setCell ?_ ?hsz _); (case hsz => (first | omega | (simp; done) | (simp; omega) | (simp at *; omega)))) | (with_reducible refine Below.drew ?_) | (with_reducible refine below_drewN ?_ _) | ((with_reducible refine Below.trans ?_ (Below.mono (by with_reducible assumption) ?hsz)); (case hsz => (first | omega | (simp; done) | (simp; omega) | (simp at *; omega))))))⟩
    rw [hyes.out.2]
    exact ((hq.setLow (by (first | omega | (simp; done) | (simp; omega) | (simp at *; omega)))).setLow (by (first | omega | (simp; done) | (simp; omega) | (simp at *; omega)))).mono (by (first | omega | (simp; done) | (simp; omega) | (simp at *; omega)))

end Go.Proofs.Ytobbeofibkpbaaa
