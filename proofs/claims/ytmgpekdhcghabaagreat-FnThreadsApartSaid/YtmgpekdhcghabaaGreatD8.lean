/- Contracts of the laws' draws: a net and a side, a net and two nodes. -/
import Derived.Test.YtmgpekdhcghabaaGreatGR12
namespace Go.Proofs.YtmgpekdhcghabaaGreat
open Go.RowKit

theorem cell_grow {W W' : World} {g o rg : Nat} {v : Value} (h : W.cell? ⟨g, o, none⟩ = some v) (hg : W.grownBy W' (some rg)) (hne : g ≠ rg) : W'.cell? ⟨g, o, none⟩ = some v :=
  (hg.cell_far ⟨g, o, none⟩ (cell_lt h) (by intro e; injection e with e; exact hne e)).trans h

/-- what a draw of a net and two numbers leaves -/
def DrawnEnds (w : World) (e : Ending) (w' : World) : Prop :=
  ∃ (z : Int) (ps : List Pp) (u : Value) (i j : Int), e = .returned (.tuple #[.agg #[.int .i64 z, u], .int .i64 i, .int .i64 j]) ∧ Pipes w' w.heap.size u ps ∧ Below w.heap.size w w' ∧ ps.length ≤ 8 ∧ 1 ≤ z ∧ z ≤ 6
/-- what l20Ends leaves, and l20Free -/
def Ended (w : World) (rg : Nat) (A : Option Addr) (m c K : Nat) (e : Ending) (w' : World) : Prop :=
  ∃ (z : Int) (ps : List Pp) (v : Value) (i j : Int), e = .returned (.tuple #[.agg #[.int .i64 z, v], .int .i64 i, .int .i64 j]) ∧ Pipes w' w.heap.size v ps ∧ Rd w' rg A m c K ∧ w.grownBy w' (some rg) ∧ ps.length ≤ 8 ∧ 1 ≤ z ∧ z ≤ 6 ∧ 0 ≤ i ∧ 0 ≤ j ∧ (2 ≤ z → i < z)

theorem ends_iv {x2 x3 x4 x5 nn : Int} (hn : 2 ≤ nn) (hn6 : nn ≤ 6) (a0 : 0 ≤ x2) (a1 : x2 < nn) (b0 : 0 ≤ x3) (b1 : x3 < nn) (c0 : 0 ≤ x4) (c1 : x4 < 30) (d0 : 0 ≤ x5) (d1 : x5 < 30) :
    0 ≤ IntKind.i64.wrap (IntKind.i64.wrap ((IntKind.i64.wrap (IntKind.i64.wrap (x2 + 1) + x3)).tmod nn * IntKind.i64.wrap (1 - IntKind.i64.wrap (x4.tdiv 29))) + IntKind.i64.wrap (x2 * IntKind.i64.wrap (x5.tdiv 29))) := by
  have e1 : IntKind.i64.wrap (x2 + 1) = x2 + 1 := IntWalk.i64_in _ (by omega)
  have e2 : IntKind.i64.wrap (x2 + 1 + x3) = x2 + 1 + x3 := IntWalk.i64_in _ (by omega)
  have e3 : (x2 + 1 + x3).tmod nn = (x2 + 1 + x3) % nn := Int.tmod_eq_emod_of_nonneg (by omega)
  have m0 : 0 ≤ (x2 + 1 + x3) % nn := Int.emod_nonneg _ (by omega)
  have m1 : (x2 + 1 + x3) % nn < nn := Int.emod_lt_of_pos _ (by omega)
  have t4 : x4.tdiv 29 = x4 / 29 := Int.tdiv_eq_ediv_of_nonneg c0
  have t5 : x5.tdiv 29 = x5 / 29 := Int.tdiv_eq_ediv_of_nonneg d0
  have q4 : x4 / 29 = 0 ∨ x4 / 29 = 1 := by omega
  have q5 : x5 / 29 = 0 ∨ x5 / 29 = 1 := by omega
  rw [e1, e2, e3, t4, t5]
  generalize (x2 + 1 + x3) % nn = r at *
  have w0 : IntKind.i64.wrap 0 = 0 := IntWalk.i64_in _ (by omega)
  have w1 : IntKind.i64.wrap 1 = 1 := IntWalk.i64_in _ (by omega)
  have wr : IntKind.i64.wrap r = r := IntWalk.i64_in _ (by omega)
  have wx : IntKind.i64.wrap x2 = x2 := IntWalk.i64_in _ (by omega)
  have wrx : IntKind.i64.wrap (r + x2) = r + x2 := IntWalk.i64_in _ (by omega)
  rcases q4 with q4 | q4 <;> rcases q5 with q5 | q5 <;> rw [q4, q5] <;> simp only [w0, w1, wr, wx, wrx, Int.sub_zero, Int.sub_self, Int.mul_zero, Int.mul_one, Int.add_zero, Int.zero_add] <;> omega

set_option maxHeartbeats 4000000 in
set_option maxRecDepth 20000 in
theorem l20Ends_any (n : Int) (rg m c K : Nat) (A : Option Addr) (w : World) (h : Rd w rg A m c K) (hK : K ≤ 45000) (h1 : 1 ≤ n) (h2 : n ≤ 1000) :
    Calls Tryz.prog 25 #[.pointer (some ⟨rg, 0, none⟩), .int .i64 n] w (Ended w rg A m c (K + 200)) := by
  have hrg := h.1
  go_enter Tryz.func25, Tryz.ntmps25
  go_wp2_with fail
  refine (l20Net_any n rg m c K A _ (h.keep (by (repeat (first | (with_reducible assumption) | (with_reducible exact Below.refl _ _) | ((with_reducible refine Below.alloc ?_ ?hsz _); (case hsz => (first | omega | (simp; done) | (simp; omega) | (simp at *; omega)))) | ((with_reducible refine Below.setCell ?_ ?hsz _); (case hsz => (first | omega | (simp; done) | (simp; omega) | (simp at *; omega)))) | (with_reducible refine Below.drew ?_) | (with_reducible refine below_drewN ?_ _) | ((with_reducible refine Below.trans ?_ (Below.mono (by with_reducible assumption) ?hsz)); (case hsz => (first | omega | (simp; done) | (simp; omega) | (simp at *; omega)))))))) (by omega) h1 h2).mono ?_
  rintro e w1 ⟨z, ps, v, rfl, hp1, hr1, hg1, hl8, hzl, hzh⟩
  rw [World.size_alloc] at hp1
  have bx1 : Box2 w1 w.heap.size (.int .i64 0) (.slice none 0 0) := (Box2.new w _ _ 25).grown hg1 (by simp; omega)
  have hs1 := hg1.size
  rw [World.size_alloc] at hs1
  have hgw1 : w.grownBy w1 (some rg) := grow_more (grow_alloc (grow_refl w _) _) hg1 (fun q hq => .inr hq)
  obtain ⟨PA, pc, rfl, hc1, hc2, hsm, -⟩ := hp1.form
  unfold maxLen at hc2
  have nb1 : Box2 (w1.alloc (.cells #[.int .i64 z, .slice PA ps.length pc] 25)) w1.heap.size (.int .i64 z) (.slice PA ps.length pc) := Box2.new _ _ _ _
  clear hg1
  have hz16 : z = 1 ∨ z = 2 ∨ z = 3 ∨ z = 4 ∨ z = 5 ∨ z = 6 := by omega
  rcases hz16 with rfl | rfl | rfl | rfl | rfl | rfl
  · go_wp2_with fail
    refine (pick_any 2 rg m c _ A _ (hr1.alloc' _) (by omega) (by omega) (by omega)).mono ?_
    rintro e w2 ⟨x2, rfl, x20, x21, hr2, hg2, hz2⟩
    have nb2 := nb1.grown hg2 (by simp; omega)
    have bx2 := (bx1.keep ((Below.refl _ _).alloc (Nat.le_refl _) _)).grown hg2 (by simp; omega)
    have hgw2 : w.grownBy w2 (some rg) := grow_more (grow_alloc hgw1 _) hg2 (fun q hq => .inr hq)
    have hp2 := (hp1.alloc' (.cells #[.int .i64 1, .slice PA ps.length pc] 25)).grown hg2 (by omega)
    clear hg2 hz2
    obtain ⟨ns, n0, n1, n2, n3⟩ := id nb2
    go_wp2_with fail
    have hr2a : Rd w2.drew rg A m c (K + 101) := (hr2.more (by omega)).drew
    have hs2 := hgw2.size
    have hr2z := hr2.1
    have hz21 : w1.heap.size ≠ rg := by omega
    have hz22 : w1.heap.size ≠ w.heap.size := by omega
    have hz23 : w.heap.size ≠ rg := by omega
    have hz24 : some w.heap.size ≠ some rg := by intro hh; injection hh with hh; omega
    have bx2d : Box2 w2.drew w.heap.size (.int .i64 0) (.slice none 0 0) := bx2
    go_region_held3 (fun w' => w'.cell? ⟨w1.heap.size, 0, none⟩ = some (.int .i64 1) ∧ w'.cell? ⟨w1.heap.size, 1, none⟩ = some (.slice PA ps.length pc))
      ((go_split_ands; (refine ⟨?_, ?_⟩ <;> first | (with_reducible assumption) | (with_reducible refine cell_drew ?_; with_reducible assumption) | (refine cell_grow ?_ (by with_reducible assumption) hz21; with_reducible assumption) | ((repeat (first | (with_reducible assumption) | ((with_reducible refine (Below.cell (by with_reducible assumption) ?hsz).trans ?_); (case hsz => (first | omega | (simp; done) | (simp; omega) | (simp at *; omega)))) | ((with_reducible refine (World.cell?_alloc_lt _ _ _ ?hsz).trans ?_); (case hsz => (first | omega | (simp; done) | (simp; omega) | (simp at *; omega)))) | ((with_reducible refine (World.cell?_setCell_other _ _ _ _ ?hsz).trans ?_); (case hsz => (intro h; injection h with h1 h2; omega))))); done))))
      (first
        | (go_at_call 57; (with_reducible refine (pick_any _ rg m c _ A _ hr4a (by omega) (by first | decide | omega) (by first | decide | omega)).mono ?_); rintro e w5 ⟨x5, rfl, x50, x51, hr5a, hg5, hz5⟩; have bx5 := bx4.grown hg5 hz24; obtain ⟨bs5, e0, e1, e2, e3⟩ := id bx5)
        | (go_at_call 57; (with_reducible refine (pick_any _ rg m c _ A _ hr3a (by omega) (by first | decide | omega) (by first | decide | omega)).mono ?_); rintro e w4 ⟨x4, rfl, x40, x41, hr4a, hg4, hz4⟩; have bx4 := bx3.grown hg4 hz24)
        | (go_at_call 57; (with_reducible refine (pick_any _ rg m c _ A _ hr2a (by omega) (by first | decide | omega | (split <;> omega)) (by first | decide | omega | (split <;> omega))).mono ?_); rintro e w3 ⟨x3, rfl, x30, x31, hr3a, hg3, hz3⟩; have bx3 := bx2d.grown hg3 hz24))
    have hg25 : w2.grownBy w5 (some rg) := grow_more (grow_more (grow_more (grow_drew (grow_refl w2 _)) hg3 (fun q hq => .inr hq)) hg4 (fun q hq => .inr hq)) hg5 (fun q hq => .inr hq)
    have hp5 := hp2.grown hg25 (by omega)
    have hgw5 := grow_more hgw2 hg25 (fun q hq => .inr hq)
    clear hg25 n0 n1 n2 n3
    have hiv0 : 0 ≤ IntKind.i64.wrap (IntKind.i64.wrap ((IntKind.i64.wrap (IntKind.i64.wrap (x2 + 1) + x3)).tmod 2 * IntKind.i64.wrap (1 - IntKind.i64.wrap (x4.tdiv 29))) + IntKind.i64.wrap (x2 * IntKind.i64.wrap (x5.tdiv 29))) := ends_iv (by omega) (by omega) (by omega) (by omega) (by omega) (by first | omega | (have hx3 := x31; (try simp only [IntKind.wrap_i64] at hx3); omega)) (by omega) (by omega) (by omega) (by omega)
    obtain ⟨iv, hiv⟩ : ∃ iv : Int, iv = IntKind.i64.wrap (IntKind.i64.wrap ((IntKind.i64.wrap (IntKind.i64.wrap (x2 + 1) + x3)).tmod 2 * IntKind.i64.wrap (1 - IntKind.i64.wrap (x4.tdiv 29))) + IntKind.i64.wrap (x2 * IntKind.i64.wrap (x5.tdiv 29))) := ⟨_, rfl⟩
    rw [← hiv] at hiv0 ⊢
    clear hiv
    replace hr5a := hr5a.more (K' := K + 200) (by omega)
    go_wp2
    refine bodyPost_ret (v := .tuple #[.agg #[.int .i64 1, .slice PA ps.length pc], .int .i64 x2, .int .i64 iv]) (by simp [results, Tryz.results25, go_sem, e0, e1]) rfl ⟨_, ps, _, x2, iv, rfl, ?_, ?_, ?_, hl8, hzl, hzh, by omega, hiv0, fun _ => by omega⟩
    · refine Pipes.mono (b := w.heap.size + 1) ?_ (by omega)
      (repeat (first | (with_reducible assumption) | ((with_reducible refine Pipes.setLow ?_ ?hsz); (case hsz => (first | omega | (simp; done) | (simp; omega) | (simp at *; omega)))) | (with_reducible refine Pipes.alloc' ?_ _) | (with_reducible refine Pipes.drew' ?_) | (with_reducible refine Pipes.drewN' ?_ _) | ((with_reducible refine Pipes.keep ?_ (by with_reducible assumption)))))
    · (repeat (first | (with_reducible assumption) | ((with_reducible refine Rd.set ?_ ?hsz _); (case hsz => (first | omega | (simp; done) | (simp; omega) | (simp at *; omega)))) | (with_reducible refine Rd.alloc' ?_ _) | (with_reducible refine Rd.drew ?_) | (with_reducible refine Rd.drewN ?_ _) | ((with_reducible refine Rd.keep ?_ (by with_reducible assumption)))))
    · exact grow_set (grow_set hgw5 (.inl (Nat.le_refl _)) _) (.inl (Nat.le_refl _)) _
  · go_wp2_with fail
    refine (pick_any 2 rg m c _ A _ (hr1.alloc' _) (by omega) (by omega) (by omega)).mono ?_
    rintro e w2 ⟨x2, rfl, x20, x21, hr2, hg2, hz2⟩
    have nb2 := nb1.grown hg2 (by simp; omega)
    have bx2 := (bx1.keep ((Below.refl _ _).alloc (Nat.le_refl _) _)).grown hg2 (by simp; omega)
    have hgw2 : w.grownBy w2 (some rg) := grow_more (grow_alloc hgw1 _) hg2 (fun q hq => .inr hq)
    have hp2 := (hp1.alloc' (.cells #[.int .i64 2, .slice PA ps.length pc] 25)).grown hg2 (by omega)
    clear hg2 hz2
    obtain ⟨ns, n0, n1, n2, n3⟩ := id nb2
    go_wp2_with fail
    have hr2a : Rd w2.drew rg A m c (K + 101) := (hr2.more (by omega)).drew
    have hs2 := hgw2.size
    have hr2z := hr2.1
    have hz21 : w1.heap.size ≠ rg := by omega
    have hz22 : w1.heap.size ≠ w.heap.size := by omega
    have hz23 : w.heap.size ≠ rg := by omega
    have hz24 : some w.heap.size ≠ some rg := by intro hh; injection hh with hh; omega
    have bx2d : Box2 w2.drew w.heap.size (.int .i64 0) (.slice none 0 0) := bx2
    go_region_held3 (fun w' => w'.cell? ⟨w1.heap.size, 0, none⟩ = some (.int .i64 2) ∧ w'.cell? ⟨w1.heap.size, 1, none⟩ = some (.slice PA ps.length pc))
      ((go_split_ands; (refine ⟨?_, ?_⟩ <;> first | (with_reducible assumption) | (with_reducible refine cell_drew ?_; with_reducible assumption) | (refine cell_grow ?_ (by with_reducible assumption) hz21; with_reducible assumption) | ((repeat (first | (with_reducible assumption) | ((with_reducible refine (Below.cell (by with_reducible assumption) ?hsz).trans ?_); (case hsz => (first | omega | (simp; done) | (simp; omega) | (simp at *; omega)))) | ((with_reducible refine (World.cell?_alloc_lt _ _ _ ?hsz).trans ?_); (case hsz => (first | omega | (simp; done) | (simp; omega) | (simp at *; omega)))) | ((with_reducible refine (World.cell?_setCell_other _ _ _ _ ?hsz).trans ?_); (case hsz => (intro h; injection h with h1 h2; omega))))); done))))
      (first
        | (go_at_call 57; (with_reducible refine (pick_any _ rg m c _ A _ hr4a (by omega) (by first | decide | omega) (by first | decide | omega)).mono ?_); rintro e w5 ⟨x5, rfl, x50, x51, hr5a, hg5, hz5⟩; have bx5 := bx4.grown hg5 hz24; obtain ⟨bs5, e0, e1, e2, e3⟩ := id bx5)
        | (go_at_call 57; (with_reducible refine (pick_any _ rg m c _ A _ hr3a (by omega) (by first | decide | omega) (by first | decide | omega)).mono ?_); rintro e w4 ⟨x4, rfl, x40, x41, hr4a, hg4, hz4⟩; have bx4 := bx3.grown hg4 hz24)
        | (go_at_call 57; (with_reducible refine (pick_any _ rg m c _ A _ hr2a (by omega) (by first | decide | omega | (split <;> omega)) (by first | decide | omega | (split <;> omega))).mono ?_); rintro e w3 ⟨x3, rfl, x30, x31, hr3a, hg3, hz3⟩; have bx3 := bx2d.grown hg3 hz24))
    have hg25 : w2.grownBy w5 (some rg) := grow_more (grow_more (grow_more (grow_drew (grow_refl w2 _)) hg3 (fun q hq => .inr hq)) hg4 (fun q hq => .inr hq)) hg5 (fun q hq => .inr hq)
    have hp5 := hp2.grown hg25 (by omega)
    have hgw5 := grow_more hgw2 hg25 (fun q hq => .inr hq)
    clear hg25 n0 n1 n2 n3
    have hiv0 : 0 ≤ IntKind.i64.wrap (IntKind.i64.wrap ((IntKind.i64.wrap (IntKind.i64.wrap (x2 + 1) + x3)).tmod 2 * IntKind.i64.wrap (1 - IntKind.i64.wrap (x4.tdiv 29))) + IntKind.i64.wrap (x2 * IntKind.i64.wrap (x5.tdiv 29))) := ends_iv (by omega) (by omega) (by omega) (by omega) (by omega) (by first | omega | (have hx3 := x31; (try simp only [IntKind.wrap_i64] at hx3); omega)) (by omega) (by omega) (by omega) (by omega)
    obtain ⟨iv, hiv⟩ : ∃ iv : Int, iv = IntKind.i64.wrap (IntKind.i64.wrap ((IntKind.i64.wrap (IntKind.i64.wrap (x2 + 1) + x3)).tmod 2 * IntKind.i64.wrap (1 - IntKind.i64.wrap (x4.tdiv 29))) + IntKind.i64.wrap (x2 * IntKind.i64.wrap (x5.tdiv 29))) := ⟨_, rfl⟩
    rw [← hiv] at hiv0 ⊢
    clear hiv
    replace hr5a := hr5a.more (K' := K + 200) (by omega)
    go_wp2
    refine bodyPost_ret (v := .tuple #[.agg #[.int .i64 2, .slice PA ps.length pc], .int .i64 x2, .int .i64 iv]) (by simp [results, Tryz.results25, go_sem, e0, e1]) rfl ⟨_, ps, _, x2, iv, rfl, ?_, ?_, ?_, hl8, hzl, hzh, by omega, hiv0, fun _ => by omega⟩
    · refine Pipes.mono (b := w.heap.size + 1) ?_ (by omega)
      (repeat (first | (with_reducible assumption) | ((with_reducible refine Pipes.setLow ?_ ?hsz); (case hsz => (first | omega | (simp; done) | (simp; omega) | (simp at *; omega)))) | (with_reducible refine Pipes.alloc' ?_ _) | (with_reducible refine Pipes.drew' ?_) | (with_reducible refine Pipes.drewN' ?_ _) | ((with_reducible refine Pipes.keep ?_ (by with_reducible assumption)))))
    · (repeat (first | (with_reducible assumption) | ((with_reducible refine Rd.set ?_ ?hsz _); (case hsz => (first | omega | (simp; done) | (simp; omega) | (simp at *; omega)))) | (with_reducible refine Rd.alloc' ?_ _) | (with_reducible refine Rd.drew ?_) | (with_reducible refine Rd.drewN ?_ _) | ((with_reducible refine Rd.keep ?_ (by with_reducible assumption)))))
    · exact grow_set (grow_set hgw5 (.inl (Nat.le_refl _)) _) (.inl (Nat.le_refl _)) _
  · go_wp2_with fail
    refine (pick_any 3 rg m c _ A _ (hr1.alloc' _) (by omega) (by omega) (by omega)).mono ?_
    rintro e w2 ⟨x2, rfl, x20, x21, hr2, hg2, hz2⟩
    have nb2 := nb1.grown hg2 (by simp; omega)
    have bx2 := (bx1.keep ((Below.refl _ _).alloc (Nat.le_refl _) _)).grown hg2 (by simp; omega)
    have hgw2 : w.grownBy w2 (some rg) := grow_more (grow_alloc hgw1 _) hg2 (fun q hq => .inr hq)
    have hp2 := (hp1.alloc' (.cells #[.int .i64 3, .slice PA ps.length pc] 25)).grown hg2 (by omega)
    clear hg2 hz2
    obtain ⟨ns, n0, n1, n2, n3⟩ := id nb2
    go_wp2_with fail
    have hr2a : Rd w2.drew rg A m c (K + 101) := (hr2.more (by omega)).drew
    have hs2 := hgw2.size
    have hr2z := hr2.1
    have hz21 : w1.heap.size ≠ rg := by omega
    have hz22 : w1.heap.size ≠ w.heap.size := by omega
    have hz23 : w.heap.size ≠ rg := by omega
    have hz24 : some w.heap.size ≠ some rg := by intro hh; injection hh with hh; omega
    have bx2d : Box2 w2.drew w.heap.size (.int .i64 0) (.slice none 0 0) := bx2
    go_region_held3 (fun w' => w'.cell? ⟨w1.heap.size, 0, none⟩ = some (.int .i64 3) ∧ w'.cell? ⟨w1.heap.size, 1, none⟩ = some (.slice PA ps.length pc))
      ((go_split_ands; (refine ⟨?_, ?_⟩ <;> first | (with_reducible assumption) | (with_reducible refine cell_drew ?_; with_reducible assumption) | (refine cell_grow ?_ (by with_reducible assumption) hz21; with_reducible assumption) | ((repeat (first | (with_reducible assumption) | ((with_reducible refine (Below.cell (by with_reducible assumption) ?hsz).trans ?_); (case hsz => (first | omega | (simp; done) | (simp; omega) | (simp at *; omega)))) | ((with_reducible refine (World.cell?_alloc_lt _ _ _ ?hsz).trans ?_); (case hsz => (first | omega | (simp; done) | (simp; omega) | (simp at *; omega)))) | ((with_reducible refine (World.cell?_setCell_other _ _ _ _ ?hsz).trans ?_); (case hsz => (intro h; injection h with h1 h2; omega))))); done))))
      (first
        | (go_at_call 57; (with_reducible refine (pick_any _ rg m c _ A _ hr4a (by omega) (by first | decide | omega) (by first | decide | omega)).mono ?_); rintro e w5 ⟨x5, rfl, x50, x51, hr5a, hg5, hz5⟩; have bx5 := bx4.grown hg5 hz24; obtain ⟨bs5, e0, e1, e2, e3⟩ := id bx5)
        | (go_at_call 57; (with_reducible refine (pick_any _ rg m c _ A _ hr3a (by omega) (by first | decide | omega) (by first | decide | omega)).mono ?_); rintro e w4 ⟨x4, rfl, x40, x41, hr4a, hg4, hz4⟩; have bx4 := bx3.grown hg4 hz24)
        | (go_at_call 57; (with_reducible refine (pick_any _ rg m c _ A _ hr2a (by omega) (by first | decide | omega | (split <;> omega)) (by first | decide | omega | (split <;> omega))).mono ?_); rintro e w3 ⟨x3, rfl, x30, x31, hr3a, hg3, hz3⟩; have bx3 := bx2d.grown hg3 hz24))
    have hg25 : w2.grownBy w5 (some rg) := grow_more (grow_more (grow_more (grow_drew (grow_refl w2 _)) hg3 (fun q hq => .inr hq)) hg4 (fun q hq => .inr hq)) hg5 (fun q hq => .inr hq)
    have hp5 := hp2.grown hg25 (by omega)
    have hgw5 := grow_more hgw2 hg25 (fun q hq => .inr hq)
    clear hg25 n0 n1 n2 n3
    have hiv0 : 0 ≤ IntKind.i64.wrap (IntKind.i64.wrap ((IntKind.i64.wrap (IntKind.i64.wrap (x2 + 1) + x3)).tmod 3 * IntKind.i64.wrap (1 - IntKind.i64.wrap (x4.tdiv 29))) + IntKind.i64.wrap (x2 * IntKind.i64.wrap (x5.tdiv 29))) := ends_iv (by omega) (by omega) (by omega) (by omega) (by omega) (by first | omega | (have hx3 := x31; (try simp only [IntKind.wrap_i64] at hx3); omega)) (by omega) (by omega) (by omega) (by omega)
    obtain ⟨iv, hiv⟩ : ∃ iv : Int, iv = IntKind.i64.wrap (IntKind.i64.wrap ((IntKind.i64.wrap (IntKind.i64.wrap (x2 + 1) + x3)).tmod 3 * IntKind.i64.wrap (1 - IntKind.i64.wrap (x4.tdiv 29))) + IntKind.i64.wrap (x2 * IntKind.i64.wrap (x5.tdiv 29))) := ⟨_, rfl⟩
    rw [← hiv] at hiv0 ⊢
    clear hiv
    replace hr5a := hr5a.more (K' := K + 200) (by omega)
    go_wp2
    refine bodyPost_ret (v := .tuple #[.agg #[.int .i64 3, .slice PA ps.length pc], .int .i64 x2, .int .i64 iv]) (by simp [results, Tryz.results25, go_sem, e0, e1]) rfl ⟨_, ps, _, x2, iv, rfl, ?_, ?_, ?_, hl8, hzl, hzh, by omega, hiv0, fun _ => by omega⟩
    · refine Pipes.mono (b := w.heap.size + 1) ?_ (by omega)
      (repeat (first | (with_reducible assumption) | ((with_reducible refine Pipes.setLow ?_ ?hsz); (case hsz => (first | omega | (simp; done) | (simp; omega) | (simp at *; omega)))) | (with_reducible refine Pipes.alloc' ?_ _) | (with_reducible refine Pipes.drew' ?_) | (with_reducible refine Pipes.drewN' ?_ _) | ((with_reducible refine Pipes.keep ?_ (by with_reducible assumption)))))
    · (repeat (first | (with_reducible assumption) | ((with_reducible refine Rd.set ?_ ?hsz _); (case hsz => (first | omega | (simp; done) | (simp; omega) | (simp at *; omega)))) | (with_reducible refine Rd.alloc' ?_ _) | (with_reducible refine Rd.drew ?_) | (with_reducible refine Rd.drewN ?_ _) | ((with_reducible refine Rd.keep ?_ (by with_reducible assumption)))))
    · exact grow_set (grow_set hgw5 (.inl (Nat.le_refl _)) _) (.inl (Nat.le_refl _)) _
  · go_wp2_with fail
    refine (pick_any 4 rg m c _ A _ (hr1.alloc' _) (by omega) (by omega) (by omega)).mono ?_
    rintro e w2 ⟨x2, rfl, x20, x21, hr2, hg2, hz2⟩
    have nb2 := nb1.grown hg2 (by simp; omega)
    have bx2 := (bx1.keep ((Below.refl _ _).alloc (Nat.le_refl _) _)).grown hg2 (by simp; omega)
    have hgw2 : w.grownBy w2 (some rg) := grow_more (grow_alloc hgw1 _) hg2 (fun q hq => .inr hq)
    have hp2 := (hp1.alloc' (.cells #[.int .i64 4, .slice PA ps.length pc] 25)).grown hg2 (by omega)
    clear hg2 hz2
    obtain ⟨ns, n0, n1, n2, n3⟩ := id nb2
    go_wp2_with fail
    have hr2a : Rd w2.drew rg A m c (K + 101) := (hr2.more (by omega)).drew
    have hs2 := hgw2.size
    have hr2z := hr2.1
    have hz21 : w1.heap.size ≠ rg := by omega
    have hz22 : w1.heap.size ≠ w.heap.size := by omega
    have hz23 : w.heap.size ≠ rg := by omega
    have hz24 : some w.heap.size ≠ some rg := by intro hh; injection hh with hh; omega
    have bx2d : Box2 w2.drew w.heap.size (.int .i64 0) (.slice none 0 0) := bx2
    go_region_held3 (fun w' => w'.cell? ⟨w1.heap.size, 0, none⟩ = some (.int .i64 4) ∧ w'.cell? ⟨w1.heap.size, 1, none⟩ = some (.slice PA ps.length pc))
      ((go_split_ands; (refine ⟨?_, ?_⟩ <;> first | (with_reducible assumption) | (with_reducible refine cell_drew ?_; with_reducible assumption) | (refine cell_grow ?_ (by with_reducible assumption) hz21; with_reducible assumption) | ((repeat (first | (with_reducible assumption) | ((with_reducible refine (Below.cell (by with_reducible assumption) ?hsz).trans ?_); (case hsz => (first | omega | (simp; done) | (simp; omega) | (simp at *; omega)))) | ((with_reducible refine (World.cell?_alloc_lt _ _ _ ?hsz).trans ?_); (case hsz => (first | omega | (simp; done) | (simp; omega) | (simp at *; omega)))) | ((with_reducible refine (World.cell?_setCell_other _ _ _ _ ?hsz).trans ?_); (case hsz => (intro h; injection h with h1 h2; omega))))); done))))
      (first
        | (go_at_call 57; (with_reducible refine (pick_any _ rg m c _ A _ hr4a (by omega) (by first | decide | omega) (by first | decide | omega)).mono ?_); rintro e w5 ⟨x5, rfl, x50, x51, hr5a, hg5, hz5⟩; have bx5 := bx4.grown hg5 hz24; obtain ⟨bs5, e0, e1, e2, e3⟩ := id bx5)
        | (go_at_call 57; (with_reducible refine (pick_any _ rg m c _ A _ hr3a (by omega) (by first | decide | omega) (by first | decide | omega)).mono ?_); rintro e w4 ⟨x4, rfl, x40, x41, hr4a, hg4, hz4⟩; have bx4 := bx3.grown hg4 hz24)
        | (go_at_call 57; (with_reducible refine (pick_any _ rg m c _ A _ hr2a (by omega) (by first | decide | omega | (split <;> omega)) (by first | decide | omega | (split <;> omega))).mono ?_); rintro e w3 ⟨x3, rfl, x30, x31, hr3a, hg3, hz3⟩; have bx3 := bx2d.grown hg3 hz24))
    have hg25 : w2.grownBy w5 (some rg) := grow_more (grow_more (grow_more (grow_drew (grow_refl w2 _)) hg3 (fun q hq => .inr hq)) hg4 (fun q hq => .inr hq)) hg5 (fun q hq => .inr hq)
    have hp5 := hp2.grown hg25 (by omega)
    have hgw5 := grow_more hgw2 hg25 (fun q hq => .inr hq)
    clear hg25 n0 n1 n2 n3
    have hiv0 : 0 ≤ IntKind.i64.wrap (IntKind.i64.wrap ((IntKind.i64.wrap (IntKind.i64.wrap (x2 + 1) + x3)).tmod 4 * IntKind.i64.wrap (1 - IntKind.i64.wrap (x4.tdiv 29))) + IntKind.i64.wrap (x2 * IntKind.i64.wrap (x5.tdiv 29))) := ends_iv (by omega) (by omega) (by omega) (by omega) (by omega) (by first | omega | (have hx3 := x31; (try simp only [IntKind.wrap_i64] at hx3); omega)) (by omega) (by omega) (by omega) (by omega)
    obtain ⟨iv, hiv⟩ : ∃ iv : Int, iv = IntKind.i64.wrap (IntKind.i64.wrap ((IntKind.i64.wrap (IntKind.i64.wrap (x2 + 1) + x3)).tmod 4 * IntKind.i64.wrap (1 - IntKind.i64.wrap (x4.tdiv 29))) + IntKind.i64.wrap (x2 * IntKind.i64.wrap (x5.tdiv 29))) := ⟨_, rfl⟩
    rw [← hiv] at hiv0 ⊢
    clear hiv
    replace hr5a := hr5a.more (K' := K + 200) (by omega)
    go_wp2
    refine bodyPost_ret (v := .tuple #[.agg #[.int .i64 4, .slice PA ps.length pc], .int .i64 x2, .int .i64 iv]) (by simp [results, Tryz.results25, go_sem, e0, e1]) rfl ⟨_, ps, _, x2, iv, rfl, ?_, ?_, ?_, hl8, hzl, hzh, by omega, hiv0, fun _ => by omega⟩
    · refine Pipes.mono (b := w.heap.size + 1) ?_ (by omega)
      (repeat (first | (with_reducible assumption) | ((with_reducible refine Pipes.setLow ?_ ?hsz); (case hsz => (first | omega | (simp; done) | (simp; omega) | (simp at *; omega)))) | (with_reducible refine Pipes.alloc' ?_ _) | (with_reducible refine Pipes.drew' ?_) | (with_reducible refine Pipes.drewN' ?_ _) | ((with_reducible refine Pipes.keep ?_ (by with_reducible assumption)))))
    · (repeat (first | (with_reducible assumption) | ((with_reducible refine Rd.set ?_ ?hsz _); (case hsz => (first | omega | (simp; done) | (simp; omega) | (simp at *; omega)))) | (with_reducible refine Rd.alloc' ?_ _) | (with_reducible refine Rd.drew ?_) | (with_reducible refine Rd.drewN ?_ _) | ((with_reducible refine Rd.keep ?_ (by with_reducible assumption)))))
    · exact grow_set (grow_set hgw5 (.inl (Nat.le_refl _)) _) (.inl (Nat.le_refl _)) _
  · go_wp2_with fail
    refine (pick_any 5 rg m c _ A _ (hr1.alloc' _) (by omega) (by omega) (by omega)).mono ?_
    rintro e w2 ⟨x2, rfl, x20, x21, hr2, hg2, hz2⟩
    have nb2 := nb1.grown hg2 (by simp; omega)
    have bx2 := (bx1.keep ((Below.refl _ _).alloc (Nat.le_refl _) _)).grown hg2 (by simp; omega)
    have hgw2 : w.grownBy w2 (some rg) := grow_more (grow_alloc hgw1 _) hg2 (fun q hq => .inr hq)
    have hp2 := (hp1.alloc' (.cells #[.int .i64 5, .slice PA ps.length pc] 25)).grown hg2 (by omega)
    clear hg2 hz2
    obtain ⟨ns, n0, n1, n2, n3⟩ := id nb2
    go_wp2_with fail
    have hr2a : Rd w2.drew rg A m c (K + 101) := (hr2.more (by omega)).drew
    have hs2 := hgw2.size
    have hr2z := hr2.1
    have hz21 : w1.heap.size ≠ rg := by omega
    have hz22 : w1.heap.size ≠ w.heap.size := by omega
    have hz23 : w.heap.size ≠ rg := by omega
    have hz24 : some w.heap.size ≠ some rg := by intro hh; injection hh with hh; omega
    have bx2d : Box2 w2.drew w.heap.size (.int .i64 0) (.slice none 0 0) := bx2
    go_region_held3 (fun w' => w'.cell? ⟨w1.heap.size, 0, none⟩ = some (.int .i64 5) ∧ w'.cell? ⟨w1.heap.size, 1, none⟩ = some (.slice PA ps.length pc))
      ((go_split_ands; (refine ⟨?_, ?_⟩ <;> first | (with_reducible assumption) | (with_reducible refine cell_drew ?_; with_reducible assumption) | (refine cell_grow ?_ (by with_reducible assumption) hz21; with_reducible assumption) | ((repeat (first | (with_reducible assumption) | ((with_reducible refine (Below.cell (by with_reducible assumption) ?hsz).trans ?_); (case hsz => (first | omega | (simp; done) | (simp; omega) | (simp at *; omega)))) | ((with_reducible refine (World.cell?_alloc_lt _ _ _ ?hsz).trans ?_); (case hsz => (first | omega | (simp; done) | (simp; omega) | (simp at *; omega)))) | ((with_reducible refine (World.cell?_setCell_other _ _ _ _ ?hsz).trans ?_); (case hsz => (intro h; injection h with h1 h2; omega))))); done))))
      (first
        | (go_at_call 57; (with_reducible refine (pick_any _ rg m c _ A _ hr4a (by omega) (by first | decide | omega) (by first | decide | omega)).mono ?_); rintro e w5 ⟨x5, rfl, x50, x51, hr5a, hg5, hz5⟩; have bx5 := bx4.grown hg5 hz24; obtain ⟨bs5, e0, e1, e2, e3⟩ := id bx5)
        | (go_at_call 57; (with_reducible refine (pick_any _ rg m c _ A _ hr3a (by omega) (by first | decide | omega) (by first | decide | omega)).mono ?_); rintro e w4 ⟨x4, rfl, x40, x41, hr4a, hg4, hz4⟩; have bx4 := bx3.grown hg4 hz24)
        | (go_at_call 57; (with_reducible refine (pick_any _ rg m c _ A _ hr2a (by omega) (by first | decide | omega | (split <;> omega)) (by first | decide | omega | (split <;> omega))).mono ?_); rintro e w3 ⟨x3, rfl, x30, x31, hr3a, hg3, hz3⟩; have bx3 := bx2d.grown hg3 hz24))
    have hg25 : w2.grownBy w5 (some rg) := grow_more (grow_more (grow_more (grow_drew (grow_refl w2 _)) hg3 (fun q hq => .inr hq)) hg4 (fun q hq => .inr hq)) hg5 (fun q hq => .inr hq)
    have hp5 := hp2.grown hg25 (by omega)
    have hgw5 := grow_more hgw2 hg25 (fun q hq => .inr hq)
    clear hg25 n0 n1 n2 n3
    have hiv0 : 0 ≤ IntKind.i64.wrap (IntKind.i64.wrap ((IntKind.i64.wrap (IntKind.i64.wrap (x2 + 1) + x3)).tmod 5 * IntKind.i64.wrap (1 - IntKind.i64.wrap (x4.tdiv 29))) + IntKind.i64.wrap (x2 * IntKind.i64.wrap (x5.tdiv 29))) := ends_iv (by omega) (by omega) (by omega) (by omega) (by omega) (by first | omega | (have hx3 := x31; (try simp only [IntKind.wrap_i64] at hx3); omega)) (by omega) (by omega) (by omega) (by omega)
    obtain ⟨iv, hiv⟩ : ∃ iv : Int, iv = IntKind.i64.wrap (IntKind.i64.wrap ((IntKind.i64.wrap (IntKind.i64.wrap (x2 + 1) + x3)).tmod 5 * IntKind.i64.wrap (1 - IntKind.i64.wrap (x4.tdiv 29))) + IntKind.i64.wrap (x2 * IntKind.i64.wrap (x5.tdiv 29))) := ⟨_, rfl⟩
    rw [← hiv] at hiv0 ⊢
    clear hiv
    replace hr5a := hr5a.more (K' := K + 200) (by omega)
    go_wp2
    refine bodyPost_ret (v := .tuple #[.agg #[.int .i64 5, .slice PA ps.length pc], .int .i64 x2, .int .i64 iv]) (by simp [results, Tryz.results25, go_sem, e0, e1]) rfl ⟨_, ps, _, x2, iv, rfl, ?_, ?_, ?_, hl8, hzl, hzh, by omega, hiv0, fun _ => by omega⟩
    · refine Pipes.mono (b := w.heap.size + 1) ?_ (by omega)
      (repeat (first | (with_reducible assumption) | ((with_reducible refine Pipes.setLow ?_ ?hsz); (case hsz => (first | omega | (simp; done) | (simp; omega) | (simp at *; omega)))) | (with_reducible refine Pipes.alloc' ?_ _) | (with_reducible refine Pipes.drew' ?_) | (with_reducible refine Pipes.drewN' ?_ _) | ((with_reducible refine Pipes.keep ?_ (by with_reducible assumption)))))
    · (repeat (first | (with_reducible assumption) | ((with_reducible refine Rd.set ?_ ?hsz _); (case hsz => (first | omega | (simp; done) | (simp; omega) | (simp at *; omega)))) | (with_reducible refine Rd.alloc' ?_ _) | (with_reducible refine Rd.drew ?_) | (with_reducible refine Rd.drewN ?_ _) | ((with_reducible refine Rd.keep ?_ (by with_reducible assumption)))))
    · exact grow_set (grow_set hgw5 (.inl (Nat.le_refl _)) _) (.inl (Nat.le_refl _)) _
  · go_wp2_with fail
    refine (pick_any 6 rg m c _ A _ (hr1.alloc' _) (by omega) (by omega) (by omega)).mono ?_
    rintro e w2 ⟨x2, rfl, x20, x21, hr2, hg2, hz2⟩
    have nb2 := nb1.grown hg2 (by simp; omega)
    have bx2 := (bx1.keep ((Below.refl _ _).alloc (Nat.le_refl _) _)).grown hg2 (by simp; omega)
    have hgw2 : w.grownBy w2 (some rg) := grow_more (grow_alloc hgw1 _) hg2 (fun q hq => .inr hq)
    have hp2 := (hp1.alloc' (.cells #[.int .i64 6, .slice PA ps.length pc] 25)).grown hg2 (by omega)
    clear hg2 hz2
    obtain ⟨ns, n0, n1, n2, n3⟩ := id nb2
    go_wp2_with fail
    have hr2a : Rd w2.drew rg A m c (K + 101) := (hr2.more (by omega)).drew
    have hs2 := hgw2.size
    have hr2z := hr2.1
    have hz21 : w1.heap.size ≠ rg := by omega
    have hz22 : w1.heap.size ≠ w.heap.size := by omega
    have hz23 : w.heap.size ≠ rg := by omega
    have hz24 : some w.heap.size ≠ some rg := by intro hh; injection hh with hh; omega
    have bx2d : Box2 w2.drew w.heap.size (.int .i64 0) (.slice none 0 0) := bx2
    go_region_held3 (fun w' => w'.cell? ⟨w1.heap.size, 0, none⟩ = some (.int .i64 6) ∧ w'.cell? ⟨w1.heap.size, 1, none⟩ = some (.slice PA ps.length pc))
      ((go_split_ands; (refine ⟨?_, ?_⟩ <;> first | (with_reducible assumption) | (with_reducible refine cell_drew ?_; with_reducible assumption) | (refine cell_grow ?_ (by with_reducible assumption) hz21; with_reducible assumption) | ((repeat (first | (with_reducible assumption) | ((with_reducible refine (Below.cell (by with_reducible assumption) ?hsz).trans ?_); (case hsz => (first | omega | (simp; done) | (simp; omega) | (simp at *; omega)))) | ((with_reducible refine (World.cell?_alloc_lt _ _ _ ?hsz).trans ?_); (case hsz => (first | omega | (simp; done) | (simp; omega) | (simp at *; omega)))) | ((with_reducible refine (World.cell?_setCell_other _ _ _ _ ?hsz).trans ?_); (case hsz => (intro h; injection h with h1 h2; omega))))); done))))
      (first
        | (go_at_call 57; (with_reducible refine (pick_any _ rg m c _ A _ hr4a (by omega) (by first | decide | omega) (by first | decide | omega)).mono ?_); rintro e w5 ⟨x5, rfl, x50, x51, hr5a, hg5, hz5⟩; have bx5 := bx4.grown hg5 hz24; obtain ⟨bs5, e0, e1, e2, e3⟩ := id bx5)
        | (go_at_call 57; (with_reducible refine (pick_any _ rg m c _ A _ hr3a (by omega) (by first | decide | omega) (by first | decide | omega)).mono ?_); rintro e w4 ⟨x4, rfl, x40, x41, hr4a, hg4, hz4⟩; have bx4 := bx3.grown hg4 hz24)
        | (go_at_call 57; (with_reducible refine (pick_any _ rg m c _ A _ hr2a (by omega) (by first | decide | omega | (split <;> omega)) (by first | decide | omega | (split <;> omega))).mono ?_); rintro e w3 ⟨x3, rfl, x30, x31, hr3a, hg3, hz3⟩; have bx3 := bx2d.grown hg3 hz24))
    have hg25 : w2.grownBy w5 (some rg) := grow_more (grow_more (grow_more (grow_drew (grow_refl w2 _)) hg3 (fun q hq => .inr hq)) hg4 (fun q hq => .inr hq)) hg5 (fun q hq => .inr hq)
    have hp5 := hp2.grown hg25 (by omega)
    have hgw5 := grow_more hgw2 hg25 (fun q hq => .inr hq)
    clear hg25 n0 n1 n2 n3
    have hiv0 : 0 ≤ IntKind.i64.wrap (IntKind.i64.wrap ((IntKind.i64.wrap (IntKind.i64.wrap (x2 + 1) + x3)).tmod 6 * IntKind.i64.wrap (1 - IntKind.i64.wrap (x4.tdiv 29))) + IntKind.i64.wrap (x2 * IntKind.i64.wrap (x5.tdiv 29))) := ends_iv (by omega) (by omega) (by omega) (by omega) (by omega) (by first | omega | (have hx3 := x31; (try simp only [IntKind.wrap_i64] at hx3); omega)) (by omega) (by omega) (by omega) (by omega)
    obtain ⟨iv, hiv⟩ : ∃ iv : Int, iv = IntKind.i64.wrap (IntKind.i64.wrap ((IntKind.i64.wrap (IntKind.i64.wrap (x2 + 1) + x3)).tmod 6 * IntKind.i64.wrap (1 - IntKind.i64.wrap (x4.tdiv 29))) + IntKind.i64.wrap (x2 * IntKind.i64.wrap (x5.tdiv 29))) := ⟨_, rfl⟩
    rw [← hiv] at hiv0 ⊢
    clear hiv
    replace hr5a := hr5a.more (K' := K + 200) (by omega)
    go_wp2
    refine bodyPost_ret (v := .tuple #[.agg #[.int .i64 6, .slice PA ps.length pc], .int .i64 x2, .int .i64 iv]) (by simp [results, Tryz.results25, go_sem, e0, e1]) rfl ⟨_, ps, _, x2, iv, rfl, ?_, ?_, ?_, hl8, hzl, hzh, by omega, hiv0, fun _ => by omega⟩
    · refine Pipes.mono (b := w.heap.size + 1) ?_ (by omega)
      (repeat (first | (with_reducible assumption) | ((with_reducible refine Pipes.setLow ?_ ?hsz); (case hsz => (first | omega | (simp; done) | (simp; omega) | (simp at *; omega)))) | (with_reducible refine Pipes.alloc' ?_ _) | (with_reducible refine Pipes.drew' ?_) | (with_reducible refine Pipes.drewN' ?_ _) | ((with_reducible refine Pipes.keep ?_ (by with_reducible assumption)))))
    · (repeat (first | (with_reducible assumption) | ((with_reducible refine Rd.set ?_ ?hsz _); (case hsz => (first | omega | (simp; done) | (simp; omega) | (simp at *; omega)))) | (with_reducible refine Rd.alloc' ?_ _) | (with_reducible refine Rd.drew ?_) | (with_reducible refine Rd.drewN ?_ _) | ((with_reducible refine Rd.keep ?_ (by with_reducible assumption)))))
    · exact grow_set (grow_set hgw5 (.inl (Nat.le_refl _)) _) (.inl (Nat.le_refl _)) _

end Go.Proofs.YtmgpekdhcghabaaGreat
