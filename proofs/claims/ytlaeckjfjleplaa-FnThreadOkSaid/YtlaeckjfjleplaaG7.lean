/- Plain facts. -/
import Derived.Test.YtlaeckjfjleplaaG1
import Derived.Deep.RegionHeld3
import Derived.Test.YtlaeckjfjleplaaSI
import Derived.Test.YtlaeckjfjleplaaGS
import Derived.Test.YtlaeckjfjleplaaGA
import Derived.Deep.DeepCutAuto
/- Contracts of the laws' draws: a net and a side, a net and two nodes. -/
namespace Go.Proofs.Ytlaeckjfjleplaa
open Go.RowKit

theorem cell_grow {W W' : World} {g o rg : Nat} {v : Value} (h : W.cell? ⟨g, o, none⟩ = some v) (hg : W.grownBy W' (some rg)) (hne : g ≠ rg) : W'.cell? ⟨g, o, none⟩ = some v :=
  (hg.cell_far ⟨g, o, none⟩ (cell_lt h) (by intro e; injection e with e; exact hne e)).trans h

/-- what a draw of a net and a number leaves, the number whatever -/
def DrawnNetAny (w : World) (e : Ending) (w' : World) : Prop :=
  ∃ (z : Int) (ps : List Pp) (u : Value) (i : Int), e = .returned (.tuple #[.agg #[.int .i64 z, u], .int .i64 i]) ∧ Pipes w' w.heap.size u ps ∧ Below w.heap.size w w' ∧ ps.length ≤ 8 ∧ 1 ≤ z ∧ z ≤ 6
/-- what a draw of a net and two numbers leaves -/
def DrawnEnds (w : World) (e : Ending) (w' : World) : Prop :=
  ∃ (z : Int) (ps : List Pp) (u : Value) (i j : Int), e = .returned (.tuple #[.agg #[.int .i64 z, u], .int .i64 i, .int .i64 j]) ∧ Pipes w' w.heap.size u ps ∧ Below w.heap.size w w' ∧ ps.length ≤ 8 ∧ 1 ≤ z ∧ z ≤ 6
/-- what l20Ends leaves, and l20Free -/
def Ended (w : World) (rg : Nat) (A : Option Addr) (m c K : Nat) (e : Ending) (w' : World) : Prop :=
  ∃ (z : Int) (ps : List Pp) (v : Value) (i j : Int), e = .returned (.tuple #[.agg #[.int .i64 z, v], .int .i64 i, .int .i64 j]) ∧ Pipes w' w.heap.size v ps ∧ Rd w' rg A m c K ∧ w.grownBy w' (some rg) ∧ ps.length ≤ 8 ∧ 1 ≤ z ∧ z ≤ 6 ∧ 0 ≤ i ∧ 0 ≤ j ∧ (2 ≤ z → i < z)

theorem ends_iv {x2 x3 x4 x5 nn : Int} (hn : 2 ≤ nn) (hn6 : nn ≤ 6) (a0 : 0 ≤ x2) (a1 : x2 < nn) (b0 : 0 ≤ x3) (b1 : x3 < nn) (c0 : 0 ≤ x4) (c1 : x4 < 30) (d0 : 0 ≤ x5) (d1 : x5 < 30) :
    0 ≤ IntKind.i64.wrap (IntKind.i64.wrap ((IntKind.i64.wrap (IntKind.i64.wrap (x2 + 1) + x3)).tmod nn * IntKind.i64.wrap (1 - IntKind.i64.wrap (x4.tdiv 29))) + IntKind.i64.wrap (x2 * IntKind.i64.wrap (x5.tdiv 29))) := by
  have e1 : IntKind.i64.wrap (x2 + 1) = x2 + 1 := IntWalk.i64_in _ (by omega)
  have e2 : IntKind.i64.wrap (x2 + 1 + x3) = x2 + 1 + x3 := IntWalk.i64_in _ (by omega)
  have e3 : (x2 + 1 + x3).tmod nn = (x2 + 1 + x3) % nn := Int.tmod_eq_emod_of_nonneg (by omega)
  have m0 : 0 ≤ (x2 + 1 + x3) % nn := Int.emod_nonneg _ (by omega)
  have m1 : (x2 + 1 + x3) % nn < nn := Int.emod_lt_of_pos _ (by omega)
  have t4 : x4.tdiv 29 = x4 / 29 := Int.tdiv_eq_ediv_of_nonneg c0
  have t5 : x5.tdiv 29 = x5 / 29 := Int.tdiv_eq_ediv_of_nonneg d0
  have q4 : x4 / 29 = 0 ∨ x4 / 29 = 1 := by omega
  have q5 : x5 / 29 = 0 ∨ x5 / 29 = 1 := by omega
  rw [e1, e2, e3, t4, t5]
  generalize (x2 + 1 + x3) % nn = r at *
  have w0 : IntKind.i64.wrap 0 = 0 := IntWalk.i64_in _ (by omega)
  have w1 : IntKind.i64.wrap 1 = 1 := IntWalk.i64_in _ (by omega)
  have wr : IntKind.i64.wrap r = r := IntWalk.i64_in _ (by omega)
  have wx : IntKind.i64.wrap x2 = x2 := IntWalk.i64_in _ (by omega)
  have wrx : IntKind.i64.wrap (r + x2) = r + x2 := IntWalk.i64_in _ (by omega)
  rcases q4 with q4 | q4 <;> rcases q5 with q5 | q5 <;> rw [q4, q5] <;> simp only [w0, w1, wr, wx, wrx, Int.sub_zero, Int.sub_self, Int.mul_zero, Int.mul_one, Int.add_zero, Int.zero_add] <;> omega

set_option maxHeartbeats 4000000 in
set_option maxRecDepth 20000 in
theorem l20Ends_any (n : Int) (rg m c K : Nat) (A : Option Addr) (w : World) (h : Rd w rg A m c K) (hK : K ≤ 45000) (h1 : 1 ≤ n) (h2 : n ≤ 1000) :
    Calls Try.prog 96 #[.pointer (some ⟨rg, 0, none⟩), .int .i64 n] w (Ended w rg A m c (K + 200)) := by
  have hrg := h.1
  go_enter Try.func96, Try.ntmps96
  go_wp2_with fail
  refine (l20Net_any n rg m c K A _ (h.keep (by (repeat (first | (with_reducible assumption) | (with_reducible exact Below.refl _ _) | ((with_reducible refine Below.alloc ?_ ?hsz _); (case hsz => (first | omega | (simp; done) | (simp; omega) | (simp at *; omega)))) | ((with_reducible refine Below.setCell ?_ ?hsz _); (case hsz => (first | omega | (simp; done) | (simp; omega) | (simp at *; omega)))) | (with_reducible refine Below.drew ?_) | (with_reducible refine below_drewN ?_ _) | ((with_reducible refine Below.trans ?_ (Below.mono (by with_reducible assumption) ?hsz)); (case hsz => (first | omega | (simp; done) | (simp; omega) | (simp at *; omega)))))))) (by omega) h1 h2).mono ?_
  rintro e w1 ⟨z, ps, v, rfl, hp1, hr1, hg1, hl8, hzl, hzh⟩
  rw [World.size_alloc] at hp1
  have bx1 : Box2 w1 w.heap.size (.int .i64 0) (.slice none 0 0) := (Box2.new w _ _ 25).grown hg1 (by simp; omega)
  have hs1 := hg1.size
  rw [World.size_alloc] at hs1
  have hgw1 : w.grownBy w1 (some rg) := grow_more (grow_alloc (grow_refl w _) _) hg1 (fun q hq => .inr hq)
  obtain ⟨PA, pc, rfl, hc1, hc2, hsm, -⟩ := hp1.form
  unfold maxLen at hc2
  have nb1 : Box2 (w1.alloc (.cells #[.int .i64 z, .slice PA ps.length pc] 25)) w1.heap.size (.int .i64 z) (.slice PA ps.length pc) := Box2.new _ _ _ _
  clear hg1
  have hz16 : z = 1 ∨ z = 2 ∨ z = 3 ∨ z = 4 ∨ z = 5 ∨ z = 6 := by omega
  rcases hz16 with rfl | rfl | rfl | rfl | rfl | rfl
  · go_wp2_with fail
    refine (pick_any 2 rg m c _ A _ (hr1.alloc' _) (by omega) (by omega) (by omega)).mono ?_
    rintro e w2 ⟨x2, rfl, x20, x21, hr2, hg2, hz2⟩
    have nb2 := nb1.grown hg2 (by simp; omega)
    have bx2 := (bx1.keep ((Below.refl _ _).alloc (Nat.le_refl _) _)).grown hg2 (by simp; omega)
    have hgw2 : w.grownBy w2 (some rg) := grow_more (grow_alloc hgw1 _) hg2 (fun q hq => .inr hq)
    have hp2 := (hp1.alloc' (.cells #[.int .i64 1, .slice PA ps.length pc] 25)).grown hg2 (by omega)
    clear hg2 hz2
    obtain ⟨ns, n0, n1, n2, n3⟩ := id nb2
    go_wp2_with fail
    have hr2a : Rd w2.drew rg A m c (K + 101) := (hr2.more (by omega)).drew
    have hs2 := hgw2.size
    have hr2z := hr2.1
    have hz21 : w1.heap.size ≠ rg := by omega
    have hz22 : w1.heap.size ≠ w.heap.size := by omega
    have hz23 : w.heap.size ≠ rg := by omega
    have hz24 : some w.heap.size ≠ some rg := by intro hh; injection hh with hh; omega
    have bx2d : Box2 w2.drew w.heap.size (.int .i64 0) (.slice none 0 0) := bx2
    go_region_held3 (fun w' => w'.cell? ⟨w1.heap.size, 0, none⟩ = some (.int .i64 1) ∧ w'.cell? ⟨w1.heap.size, 1, none⟩ = some (.slice PA ps.length pc))
      ((go_split_ands; (refine ⟨?_, ?_⟩ <;> first | (with_reducible assumption) | (with_reducible refine cell_drew ?_; with_reducible assumption) | (refine cell_grow ?_ (by with_reducible assumption) hz21; with_reducible assumption) | ((repeat (first | (with_reducible assumption) | ((with_reducible refine (Below.cell (by with_reducible assumption) ?hsz).trans ?_); (case hsz => (first | omega | (simp; done) | (simp; omega) | (simp at *; omega)))) | ((with_reducible refine (World.cell?_alloc_lt _ _ _ ?hsz).trans ?_); (case hsz => (first | omega | (simp; done) | (simp; omega) | (simp at *; omega)))) | ((with_reducible refine (World.cell?_setCell_other _ _ _ _ ?hsz).trans ?_); (case hsz => (intro h; injection h with h1 h2; omega))))); done))))
      (first
        | (go_at_call 58; (with_reducible refine (pick_any _ rg m c _ A _ hr4a (by omega) (by first | decide | omega) (by first | decide | omega)).mono ?_); rintro e w5 ⟨x5, rfl, x50, x51, hr5a, hg5, hz5⟩; have bx5 := bx4.grown hg5 hz24; obtain ⟨bs5, e0, e1, e2, e3⟩ := id bx5)
        | (go_at_call 58; (with_reducible refine (pick_any _ rg m c _ A _ hr3a (by omega) (by first | decide | omega) (by first | decide | omega)).mono ?_); rintro e w4 ⟨x4, rfl, x40, x41, hr4a, hg4, hz4⟩; have bx4 := bx3.grown hg4 hz24)
        | (go_at_call 58; (with_reducible refine (pick_any _ rg m c _ A _ hr2a (by omega) (by first | decide | omega | (split <;> omega)) (by first | decide | omega | (split <;> omega))).mono ?_); rintro e w3 ⟨x3, rfl, x30, x31, hr3a, hg3, hz3⟩; have bx3 := bx2d.grown hg3 hz24))
    have hg25 : w2.grownBy w5 (some rg) := grow_more (grow_more (grow_more (grow_drew (grow_refl w2 _)) hg3 (fun q hq => .inr hq)) hg4 (fun q hq => .inr hq)) hg5 (fun q hq => .inr hq)
    have hp5 := hp2.grown hg25 (by omega)
    have hgw5 := grow_more hgw2 hg25 (fun q hq => .inr hq)
    clear hg25 n0 n1 n2 n3
    have hiv0 : 0 ≤ IntKind.i64.wrap (IntKind.i64.wrap ((IntKind.i64.wrap (IntKind.i64.wrap (x2 + 1) + x3)).tmod 2 * IntKind.i64.wrap (1 - IntKind.i64.wrap (x4.tdiv 29))) + IntKind.i64.wrap (x2 * IntKind.i64.wrap (x5.tdiv 29))) := ends_iv (by omega) (by omega) (by omega) (by omega) (by omega) (by first | omega | (have hx3 := x31; (try simp only [IntKind.wrap_i64] at hx3); omega)) (by omega) (by omega) (by omega) (by omega)
    obtain ⟨iv, hiv⟩ : ∃ iv : Int, iv = IntKind.i64.wrap (IntKind.i64.wrap ((IntKind.i64.wrap (IntKind.i64.wrap (x2 + 1) + x3)).tmod 2 * IntKind.i64.wrap (1 - IntKind.i64.wrap (x4.tdiv 29))) + IntKind.i64.wrap (x2 * IntKind.i64.wrap (x5.tdiv 29))) := ⟨_, rfl⟩
    rw [← hiv] at hiv0 ⊢
    clear hiv
    replace hr5a := hr5a.more (K' := K + 200) (by omega)
    go_wp2
    refine bodyPost_ret (v := .tuple #[.agg #[.int .i64 1, .slice PA ps.length pc], .int .i64 x2, .int .i64 iv]) (by simp [results, Try.results96, go_sem, e0, e1]) rfl ⟨_, ps, _, x2, iv, rfl, ?_, ?_, ?_, hl8, hzl, hzh, by omega, hiv0, fun _ => by omega⟩
    · refine Pipes.mono (b := w.heap.size + 1) ?_ (by omega)
      (repeat (first | (with_reducible assumption) | ((with_reducible refine Pipes.setLow ?_ ?hsz); (case hsz => (first | omega | (simp; done) | (simp; omega) | (simp at *; omega)))) | (with_reducible refine Pipes.alloc' ?_ _) | (with_reducible refine Pipes.drew' ?_) | (with_reducible refine Pipes.drewN' ?_ _) | ((with_reducible refine Pipes.keep ?_ (by with_reducible assumption)))))
    · (repeat (first | (with_reducible assumption) | ((with_reducible refine Rd.set ?_ ?hsz _); (case hsz => (first | omega | (simp; done) | (simp; omega) | (simp at *; omega)))) | (with_reducible refine Rd.alloc' ?_ _) | (with_reducible refine Rd.drew ?_) | (with_reducible refine Rd.drewN ?_ _) | ((with_reducible refine Rd.keep ?_ (by with_reducible assumption)))))
    · exact grow_set (grow_set hgw5 (.inl (Nat.le_refl _)) _) (.inl (Nat.le_refl _)) _
  · go_wp2_with fail
    refine (pick_any 2 rg m c _ A _ (hr1.alloc' _) (by omega) (by omega) (by omega)).mono ?_
    rintro e w2 ⟨x2, rfl, x20, x21, hr2, hg2, hz2⟩
    have nb2 := nb1.grown hg2 (by simp; omega)
    have bx2 := (bx1.keep ((Below.refl _ _).alloc (Nat.le_refl _) _)).grown hg2 (by simp; omega)
    have hgw2 : w.grownBy w2 (some rg) := grow_more (grow_alloc hgw1 _) hg2 (fun q hq => .inr hq)
    have hp2 := (hp1.alloc' (.cells #[.int .i64 2, .slice PA ps.length pc] 25)).grown hg2 (by omega)
    clear hg2 hz2
    obtain ⟨ns, n0, n1, n2, n3⟩ := id nb2
    go_wp2_with fail
    have hr2a : Rd w2.drew rg A m c (K + 101) := (hr2.more (by omega)).drew
    have hs2 := hgw2.size
    have hr2z := hr2.1
    have hz21 : w1.heap.size ≠ rg := by omega
    have hz22 : w1.heap.size ≠ w.heap.size := by omega
    have hz23 : w.heap.size ≠ rg := by omega
    have hz24 : some w.heap.size ≠ some rg := by intro hh; injection hh with hh; omega
    have bx2d : Box2 w2.drew w.heap.size (.int .i64 0) (.slice none 0 0) := bx2
    go_region_held3 (fun w' => w'.cell? ⟨w1.heap.size, 0, none⟩ = some (.int .i64 2) ∧ w'.cell? ⟨w1.heap.size, 1, none⟩ = some (.slice PA ps.length pc))
      ((go_split_ands; (refine ⟨?_, ?_⟩ <;> first | (with_reducible assumption) | (with_reducible refine cell_drew ?_; with_reducible assumption) | (refine cell_grow ?_ (by with_reducible assumption) hz21; with_reducible assumption) | ((repeat (first | (with_reducible assumption) | ((with_reducible refine (Below.cell (by with_reducible assumption) ?hsz).trans ?_); (case hsz => (first | omega | (simp; done) | (simp; omega) | (simp at *; omega)))) | ((with_reducible refine (World.cell?_alloc_lt _ _ _ ?hsz).trans ?_); (case hsz => (first | omega | (simp; done) | (simp; omega) | (simp at *; omega)))) | ((with_reducible refine (World.cell?_setCell_other _ _ _ _ ?hsz).trans ?_); (case hsz => (intro h; injection h with h1 h2; omega))))); done))))
      (first
        | (go_at_call 58; (with_reducible refine (pick_any _ rg m c _ A _ hr4a (by omega) (by first | decide | omega) (by first | decide | omega)).mono ?_); rintro e w5 ⟨x5, rfl, x50, x51, hr5a, hg5, hz5⟩; have bx5 := bx4.grown hg5 hz24; obtain ⟨bs5, e0, e1, e2, e3⟩ := id bx5)
        | (go_at_call 58; (with_reducible refine (pick_any _ rg m c _ A _ hr3a (by omega) (by first | decide | omega) (by first | decide | omega)).mono ?_); rintro e w4 ⟨x4, rfl, x40, x41, hr4a, hg4, hz4⟩; have bx4 := bx3.grown hg4 hz24)
        | (go_at_call 58; (with_reducible refine (pick_any _ rg m c _ A _ hr2a (by omega) (by first | decide | omega | (split <;> omega)) (by first | decide | omega | (split <;> omega))).mono ?_); rintro e w3 ⟨x3, rfl, x30, x31, hr3a, hg3, hz3⟩; have bx3 := bx2d.grown hg3 hz24))
    have hg25 : w2.grownBy w5 (some rg) := grow_more (grow_more (grow_more (grow_drew (grow_refl w2 _)) hg3 (fun q hq => .inr hq)) hg4 (fun q hq => .inr hq)) hg5 (fun q hq => .inr hq)
    have hp5 := hp2.grown hg25 (by omega)
    have hgw5 := grow_more hgw2 hg25 (fun q hq => .inr hq)
    clear hg25 n0 n1 n2 n3
    have hiv0 : 0 ≤ IntKind.i64.wrap (IntKind.i64.wrap ((IntKind.i64.wrap (IntKind.i64.wrap (x2 + 1) + x3)).tmod 2 * IntKind.i64.wrap (1 - IntKind.i64.wrap (x4.tdiv 29))) + IntKind.i64.wrap (x2 * IntKind.i64.wrap (x5.tdiv 29))) := ends_iv (by omega) (by omega) (by omega) (by omega) (by omega) (by first | omega | (have hx3 := x31; (try simp only [IntKind.wrap_i64] at hx3); omega)) (by omega) (by omega) (by omega) (by omega)
    obtain ⟨iv, hiv⟩ : ∃ iv : Int, iv = IntKind.i64.wrap (IntKind.i64.wrap ((IntKind.i64.wrap (IntKind.i64.wrap (x2 + 1) + x3)).tmod 2 * IntKind.i64.wrap (1 - IntKind.i64.wrap (x4.tdiv 29))) + IntKind.i64.wrap (x2 * IntKind.i64.wrap (x5.tdiv 29))) := ⟨_, rfl⟩
    rw [← hiv] at hiv0 ⊢
    clear hiv
    replace hr5a := hr5a.more (K' := K + 200) (by omega)
    go_wp2
    refine bodyPost_ret (v := .tuple #[.agg #[.int .i64 2, .slice PA ps.length pc], .int .i64 x2, .int .i64 iv]) (by simp [results, Try.results96, go_sem, e0, e1]) rfl ⟨_, ps, _, x2, iv, rfl, ?_, ?_, ?_, hl8, hzl, hzh, by omega, hiv0, fun _ => by omega⟩
    · refine Pipes.mono (b := w.heap.size + 1) ?_ (by omega)
      (repeat (first | (with_reducible assumption) | ((with_reducible refine Pipes.setLow ?_ ?hsz); (case hsz => (first | omega | (simp; done) | (simp; omega) | (simp at *; omega)))) | (with_reducible refine Pipes.alloc' ?_ _) | (with_reducible refine Pipes.drew' ?_) | (with_reducible refine Pipes.drewN' ?_ _) | ((with_reducible refine Pipes.keep ?_ (by with_reducible assumption)))))
    · (repeat (first | (with_reducible assumption) | ((with_reducible refine Rd.set ?_ ?hsz _); (case hsz => (first | omega | (simp; done) | (simp; omega) | (simp at *; omega)))) | (with_reducible refine Rd.alloc' ?_ _) | (with_reducible refine Rd.drew ?_) | (with_reducible refine Rd.drewN ?_ _) | ((with_reducible refine Rd.keep ?_ (by with_reducible assumption)))))
    · exact grow_set (grow_set hgw5 (.inl (Nat.le_refl _)) _) (.inl (Nat.le_refl _)) _
  · go_wp2_with fail
    refine (pick_any 3 rg m c _ A _ (hr1.alloc' _) (by omega) (by omega) (by omega)).mono ?_
    rintro e w2 ⟨x2, rfl, x20, x21, hr2, hg2, hz2⟩
    have nb2 := nb1.grown hg2 (by simp; omega)
    have bx2 := (bx1.keep ((Below.refl _ _).alloc (Nat.le_refl _) _)).grown hg2 (by simp; omega)
    have hgw2 : w.grownBy w2 (some rg) := grow_more (grow_alloc hgw1 _) hg2 (fun q hq => .inr hq)
    have hp2 := (hp1.alloc' (.cells #[.int .i64 3, .slice PA ps.length pc] 25)).grown hg2 (by omega)
    clear hg2 hz2
    obtain ⟨ns, n0, n1, n2, n3⟩ := id nb2
    go_wp2_with fail
    have hr2a : Rd w2.drew rg A m c (K + 101) := (hr2.more (by omega)).drew
    have hs2 := hgw2.size
    have hr2z := hr2.1
    have hz21 : w1.heap.size ≠ rg := by omega
    have hz22 : w1.heap.size ≠ w.heap.size := by omega
    have hz23 : w.heap.size ≠ rg := by omega
    have hz24 : some w.heap.size ≠ some rg := by intro hh; injection hh with hh; omega
    have bx2d : Box2 w2.drew w.heap.size (.int .i64 0) (.slice none 0 0) := bx2
    go_region_held3 (fun w' => w'.cell? ⟨w1.heap.size, 0, none⟩ = some (.int .i64 3) ∧ w'.cell? ⟨w1.heap.size, 1, none⟩ = some (.slice PA ps.length pc))
      ((go_split_ands; (refine ⟨?_, ?_⟩ <;> first | (with_reducible assumption) | (with_reducible refine cell_drew ?_; with_reducible assumption) | (refine cell_grow ?_ (by with_reducible assumption) hz21; with_reducible assumption) | ((repeat (first | (with_reducible assumption) | ((with_reducible refine (Below.cell (by with_reducible assumption) ?hsz).trans ?_); (case hsz => (first | omega | (simp; done) | (simp; omega) | (simp at *; omega)))) | ((with_reducible refine (World.cell?_alloc_lt _ _ _ ?hsz).trans ?_); (case hsz => (first | omega | (simp; done) | (simp; omega) | (simp at *; omega)))) | ((with_reducible refine (World.cell?_setCell_other _ _ _ _ ?hsz).trans ?_); (case hsz => (intro h; injection h with h1 h2; omega))))); done))))
      (first
        | (go_at_call 58; (with_reducible refine (pick_any _ rg m c _ A _ hr4a (by omega) (by first | decide | omega) (by first | decide | omega)).mono ?_); rintro e w5 ⟨x5, rfl, x50, x51, hr5a, hg5, hz5⟩; have bx5 := bx4.grown hg5 hz24; obtain ⟨bs5, e0, e1, e2, e3⟩ := id bx5)
        | (go_at_call 58; (with_reducible refine (pick_any _ rg m c _ A _ hr3a (by omega) (by first | decide | omega) (by first | decide | omega)).mono ?_); rintro e w4 ⟨x4, rfl, x40, x41, hr4a, hg4, hz4⟩; have bx4 := bx3.grown hg4 hz24)
        | (go_at_call 58; (with_reducible refine (pick_any _ rg m c _ A _ hr2a (by omega) (by first | decide | omega | (split <;> omega)) (by first | decide | omega | (split <;> omega))).mono ?_); rintro e w3 ⟨x3, rfl, x30, x31, hr3a, hg3, hz3⟩; have bx3 := bx2d.grown hg3 hz24))
    have hg25 : w2.grownBy w5 (some rg) := grow_more (grow_more (grow_more (grow_drew (grow_refl w2 _)) hg3 (fun q hq => .inr hq)) hg4 (fun q hq => .inr hq)) hg5 (fun q hq => .inr hq)
    have hp5 := hp2.grown hg25 (by omega)
    have hgw5 := grow_more hgw2 hg25 (fun q hq => .inr hq)
    clear hg25 n0 n1 n2 n3
    have hiv0 : 0 ≤ IntKind.i64.wrap (IntKind.i64.wrap ((IntKind.i64.wrap (IntKind.i64.wrap (x2 + 1) + x3)).tmod 3 * IntKind.i64.wrap (1 - IntKind.i64.wrap (x4.tdiv 29))) + IntKind.i64.wrap (x2 * IntKind.i64.wrap (x5.tdiv 29))) := ends_iv (by omega) (by omega) (by omega) (by omega) (by omega) (by first | omega | (have hx3 := x31; (try simp only [IntKind.wrap_i64] at hx3); omega)) (by omega) (by omega) (by omega) (by omega)
    obtain ⟨iv, hiv⟩ : ∃ iv : Int, iv = IntKind.i64.wrap (IntKind.i64.wrap ((IntKind.i64.wrap (IntKind.i64.wrap (x2 + 1) + x3)).tmod 3 * IntKind.i64.wrap (1 - IntKind.i64.wrap (x4.tdiv 29))) + IntKind.i64.wrap (x2 * IntKind.i64.wrap (x5.tdiv 29))) := ⟨_, rfl⟩
    rw [← hiv] at hiv0 ⊢
    clear hiv
    replace hr5a := hr5a.more (K' := K + 200) (by omega)
    go_wp2
    refine bodyPost_ret (v := .tuple #[.agg #[.int .i64 3, .slice PA ps.length pc], .int .i64 x2, .int .i64 iv]) (by simp [results, Try.results96, go_sem, e0, e1]) rfl ⟨_, ps, _, x2, iv, rfl, ?_, ?_, ?_, hl8, hzl, hzh, by omega, hiv0, fun _ => by omega⟩
    · refine Pipes.mono (b := w.heap.size + 1) ?_ (by omega)
      (repeat (first | (with_reducible assumption) | ((with_reducible refine Pipes.setLow ?_ ?hsz); (case hsz => (first | omega | (simp; done) | (simp; omega) | (simp at *; omega)))) | (with_reducible refine Pipes.alloc' ?_ _) | (with_reducible refine Pipes.drew' ?_) | (with_reducible refine Pipes.drewN' ?_ _) | ((with_reducible refine Pipes.keep ?_ (by with_reducible assumption)))))
    · (repeat (first | (with_reducible assumption) | ((with_reducible refine Rd.set ?_ ?hsz _); (case hsz => (first | omega | (simp; done) | (simp; omega) | (simp at *; omega)))) | (with_reducible refine Rd.alloc' ?_ _) | (with_reducible refine Rd.drew ?_) | (with_reducible refine Rd.drewN ?_ _) | ((with_reducible refine Rd.keep ?_ (by with_reducible assumption)))))
    · exact grow_set (grow_set hgw5 (.inl (Nat.le_refl _)) _) (.inl (Nat.le_refl _)) _
  · go_wp2_with fail
    refine (pick_any 4 rg m c _ A _ (hr1.alloc' _) (by omega) (by omega) (by omega)).mono ?_
    rintro e w2 ⟨x2, rfl, x20, x21, hr2, hg2, hz2⟩
    have nb2 := nb1.grown hg2 (by simp; omega)
    have bx2 := (bx1.keep ((Below.refl _ _).alloc (Nat.le_refl _) _)).grown hg2 (by simp; omega)
    have hgw2 : w.grownBy w2 (some rg) := grow_more (grow_alloc hgw1 _) hg2 (fun q hq => .inr hq)
    have hp2 := (hp1.alloc' (.cells #[.int .i64 4, .slice PA ps.length pc] 25)).grown hg2 (by omega)
    clear hg2 hz2
    obtain ⟨ns, n0, n1, n2, n3⟩ := id nb2
    go_wp2_with fail
    have hr2a : Rd w2.drew rg A m c (K + 101) := (hr2.more (by omega)).drew
    have hs2 := hgw2.size
    have hr2z := hr2.1
    have hz21 : w1.heap.size ≠ rg := by omega
    have hz22 : w1.heap.size ≠ w.heap.size := by omega
    have hz23 : w.heap.size ≠ rg := by omega
    have hz24 : some w.heap.size ≠ some rg := by intro hh; injection hh with hh; omega
    have bx2d : Box2 w2.drew w.heap.size (.int .i64 0) (.slice none 0 0) := bx2
    go_region_held3 (fun w' => w'.cell? ⟨w1.heap.size, 0, none⟩ = some (.int .i64 4) ∧ w'.cell? ⟨w1.heap.size, 1, none⟩ = some (.slice PA ps.length pc))
      ((go_split_ands; (refine ⟨?_, ?_⟩ <;> first | (with_reducible assumption) | (with_reducible refine cell_drew ?_; with_reducible assumption) | (refine cell_grow ?_ (by with_reducible assumption) hz21; with_reducible assumption) | ((repeat (first | (with_reducible assumption) | ((with_reducible refine (Below.cell (by with_reducible assumption) ?hsz).trans ?_); (case hsz => (first | omega | (simp; done) | (simp; omega) | (simp at *; omega)))) | ((with_reducible refine (World.cell?_alloc_lt _ _ _ ?hsz).trans ?_); (case hsz => (first | omega | (simp; done) | (simp; omega) | (simp at *; omega)))) | ((with_reducible refine (World.cell?_setCell_other _ _ _ _ ?hsz).trans ?_); (case hsz => (intro h; injection h with h1 h2; omega))))); done))))
      (first
        | (go_at_call 58; (with_reducible refine (pick_any _ rg m c _ A _ hr4a (by omega) (by first | decide | omega) (by first | decide | omega)).mono ?_); rintro e w5 ⟨x5, rfl, x50, x51, hr5a, hg5, hz5⟩; have bx5 := bx4.grown hg5 hz24; obtain ⟨bs5, e0, e1, e2, e3⟩ := id bx5)
        | (go_at_call 58; (with_reducible refine (pick_any _ rg m c _ A _ hr3a (by omega) (by first | decide | omega) (by first | decide | omega)).mono ?_); rintro e w4 ⟨x4, rfl, x40, x41, hr4a, hg4, hz4⟩; have bx4 := bx3.grown hg4 hz24)
        | (go_at_call 58; (with_reducible refine (pick_any _ rg m c _ A _ hr2a (by omega) (by first | decide | omega | (split <;> omega)) (by first | decide | omega | (split <;> omega))).mono ?_); rintro e w3 ⟨x3, rfl, x30, x31, hr3a, hg3, hz3⟩; have bx3 := bx2d.grown hg3 hz24))
    have hg25 : w2.grownBy w5 (some rg) := grow_more (grow_more (grow_more (grow_drew (grow_refl w2 _)) hg3 (fun q hq => .inr hq)) hg4 (fun q hq => .inr hq)) hg5 (fun q hq => .inr hq)
    have hp5 := hp2.grown hg25 (by omega)
    have hgw5 := grow_more hgw2 hg25 (fun q hq => .inr hq)
    clear hg25 n0 n1 n2 n3
    have hiv0 : 0 ≤ IntKind.i64.wrap (IntKind.i64.wrap ((IntKind.i64.wrap (IntKind.i64.wrap (x2 + 1) + x3)).tmod 4 * IntKind.i64.wrap (1 - IntKind.i64.wrap (x4.tdiv 29))) + IntKind.i64.wrap (x2 * IntKind.i64.wrap (x5.tdiv 29))) := ends_iv (by omega) (by omega) (by omega) (by omega) (by omega) (by first | omega | (have hx3 := x31; (try simp only [IntKind.wrap_i64] at hx3); omega)) (by omega) (by omega) (by omega) (by omega)
    obtain ⟨iv, hiv⟩ : ∃ iv : Int, iv = IntKind.i64.wrap (IntKind.i64.wrap ((IntKind.i64.wrap (IntKind.i64.wrap (x2 + 1) + x3)).tmod 4 * IntKind.i64.wrap (1 - IntKind.i64.wrap (x4.tdiv 29))) + IntKind.i64.wrap (x2 * IntKind.i64.wrap (x5.tdiv 29))) := ⟨_, rfl⟩
    rw [← hiv] at hiv0 ⊢
    clear hiv
    replace hr5a := hr5a.more (K' := K + 200) (by omega)
    go_wp2
    refine bodyPost_ret (v := .tuple #[.agg #[.int .i64 4, .slice PA ps.length pc], .int .i64 x2, .int .i64 iv]) (by simp [results, Try.results96, go_sem, e0, e1]) rfl ⟨_, ps, _, x2, iv, rfl, ?_, ?_, ?_, hl8, hzl, hzh, by omega, hiv0, fun _ => by omega⟩
    · refine Pipes.mono (b := w.heap.size + 1) ?_ (by omega)
      (repeat (first | (with_reducible assumption) | ((with_reducible refine Pipes.setLow ?_ ?hsz); (case hsz => (first | omega | (simp; done) | (simp; omega) | (simp at *; omega)))) | (with_reducible refine Pipes.alloc' ?_ _) | (with_reducible refine Pipes.drew' ?_) | (with_reducible refine Pipes.drewN' ?_ _) | ((with_reducible refine Pipes.keep ?_ (by with_reducible assumption)))))
    · (repeat (first | (with_reducible assumption) | ((with_reducible refine Rd.set ?_ ?hsz _); (case hsz => (first | omega | (simp; done) | (simp; omega) | (simp at *; omega)))) | (with_reducible refine Rd.alloc' ?_ _) | (with_reducible refine Rd.drew ?_) | (with_reducible refine Rd.drewN ?_ _) | ((with_reducible refine Rd.keep ?_ (by with_reducible assumption)))))
    · exact grow_set (grow_set hgw5 (.inl (Nat.le_refl _)) _) (.inl (Nat.le_refl _)) _
  · go_wp2_with fail
    refine (pick_any 5 rg m c _ A _ (hr1.alloc' _) (by omega) (by omega) (by omega)).mono ?_
    rintro e w2 ⟨x2, rfl, x20, x21, hr2, hg2, hz2⟩
    have nb2 := nb1.grown hg2 (by simp; omega)
    have bx2 := (bx1.keep ((Below.refl _ _).alloc (Nat.le_refl _) _)).grown hg2 (by simp; omega)
    have hgw2 : w.grownBy w2 (some rg) := grow_more (grow_alloc hgw1 _) hg2 (fun q hq => .inr hq)
    have hp2 := (hp1.alloc' (.cells #[.int .i64 5, .slice PA ps.length pc] 25)).grown hg2 (by omega)
    clear hg2 hz2
    obtain ⟨ns, n0, n1, n2, n3⟩ := id nb2
    go_wp2_with fail
    have hr2a : Rd w2.drew rg A m c (K + 101) := (hr2.more (by omega)).drew
    have hs2 := hgw2.size
    have hr2z := hr2.1
    have hz21 : w1.heap.size ≠ rg := by omega
    have hz22 : w1.heap.size ≠ w.heap.size := by omega
    have hz23 : w.heap.size ≠ rg := by omega
    have hz24 : some w.heap.size ≠ some rg := by intro hh; injection hh with hh; omega
    have bx2d : Box2 w2.drew w.heap.size (.int .i64 0) (.slice none 0 0) := bx2
    go_region_held3 (fun w' => w'.cell? ⟨w1.heap.size, 0, none⟩ = some (.int .i64 5) ∧ w'.cell? ⟨w1.heap.size, 1, none⟩ = some (.slice PA ps.length pc))
      ((go_split_ands; (refine ⟨?_, ?_⟩ <;> first | (with_reducible assumption) | (with_reducible refine cell_drew ?_; with_reducible assumption) | (refine cell_grow ?_ (by with_reducible assumption) hz21; with_reducible assumption) | ((repeat (first | (with_reducible assumption) | ((with_reducible refine (Below.cell (by with_reducible assumption) ?hsz).trans ?_); (case hsz => (first | omega | (simp; done) | (simp; omega) | (simp at *; omega)))) | ((with_reducible refine (World.cell?_alloc_lt _ _ _ ?hsz).trans ?_); (case hsz => (first | omega | (simp; done) | (simp; omega) | (simp at *; omega)))) | ((with_reducible refine (World.cell?_setCell_other _ _ _ _ ?hsz).trans ?_); (case hsz => (intro h; injection h with h1 h2; omega))))); done))))
      (first
        | (go_at_call 58; (with_reducible refine (pick_any _ rg m c _ A _ hr4a (by omega) (by first | decide | omega) (by first | decide | omega)).mono ?_); rintro e w5 ⟨x5, rfl, x50, x51, hr5a, hg5, hz5⟩; have bx5 := bx4.grown hg5 hz24; obtain ⟨bs5, e0, e1, e2, e3⟩ := id bx5)
        | (go_at_call 58; (with_reducible refine (pick_any _ rg m c _ A _ hr3a (by omega) (by first | decide | omega) (by first | decide | omega)).mono ?_); rintro e w4 ⟨x4, rfl, x40, x41, hr4a, hg4, hz4⟩; have bx4 := bx3.grown hg4 hz24)
        | (go_at_call 58; (with_reducible refine (pick_any _ rg m c _ A _ hr2a (by omega) (by first | decide | omega | (split <;> omega)) (by first | decide | omega | (split <;> omega))).mono ?_); rintro e w3 ⟨x3, rfl, x30, x31, hr3a, hg3, hz3⟩; have bx3 := bx2d.grown hg3 hz24))
    have hg25 : w2.grownBy w5 (some rg) := grow_more (grow_more (grow_more (grow_drew (grow_refl w2 _)) hg3 (fun q hq => .inr hq)) hg4 (fun q hq => .inr hq)) hg5 (fun q hq => .inr hq)
    have hp5 := hp2.grown hg25 (by omega)
    have hgw5 := grow_more hgw2 hg25 (fun q hq => .inr hq)
    clear hg25 n0 n1 n2 n3
    have hiv0 : 0 ≤ IntKind.i64.wrap (IntKind.i64.wrap ((IntKind.i64.wrap (IntKind.i64.wrap (x2 + 1) + x3)).tmod 5 * IntKind.i64.wrap (1 - IntKind.i64.wrap (x4.tdiv 29))) + IntKind.i64.wrap (x2 * IntKind.i64.wrap (x5.tdiv 29))) := ends_iv (by omega) (by omega) (by omega) (by omega) (by omega) (by first | omega | (have hx3 := x31; (try simp only [IntKind.wrap_i64] at hx3); omega)) (by omega) (by omega) (by omega) (by omega)
    obtain ⟨iv, hiv⟩ : ∃ iv : Int, iv = IntKind.i64.wrap (IntKind.i64.wrap ((IntKind.i64.wrap (IntKind.i64.wrap (x2 + 1) + x3)).tmod 5 * IntKind.i64.wrap (1 - IntKind.i64.wrap (x4.tdiv 29))) + IntKind.i64.wrap (x2 * IntKind.i64.wrap (x5.tdiv 29))) := ⟨_, rfl⟩
    rw [← hiv] at hiv0 ⊢
    clear hiv
    replace hr5a := hr5a.more (K' := K + 200) (by omega)
    go_wp2
    refine bodyPost_ret (v := .tuple #[.agg #[.int .i64 5, .slice PA ps.length pc], .int .i64 x2, .int .i64 iv]) (by simp [results, Try.results96, go_sem, e0, e1]) rfl ⟨_, ps, _, x2, iv, rfl, ?_, ?_, ?_, hl8, hzl, hzh, by omega, hiv0, fun _ => by omega⟩
    · refine Pipes.mono (b := w.heap.size + 1) ?_ (by omega)
      (repeat (first | (with_reducible assumption) | ((with_reducible refine Pipes.setLow ?_ ?hsz); (case hsz => (first | omega | (simp; done) | (simp; omega) | (simp at *; omega)))) | (with_reducible refine Pipes.alloc' ?_ _) | (with_reducible refine Pipes.drew' ?_) | (with_reducible refine Pipes.drewN' ?_ _) | ((with_reducible refine Pipes.keep ?_ (by with_reducible assumption)))))
    · (repeat (first | (with_reducible assumption) | ((with_reducible refine Rd.set ?_ ?hsz _); (case hsz => (first | omega | (simp; done) | (simp; omega) | (simp at *; omega)))) | (with_reducible refine Rd.alloc' ?_ _) | (with_reducible refine Rd.drew ?_) | (with_reducible refine Rd.drewN ?_ _) | ((with_reducible refine Rd.keep ?_ (by with_reducible assumption)))))
    · exact grow_set (grow_set hgw5 (.inl (Nat.le_refl _)) _) (.inl (Nat.le_refl _)) _
  · go_wp2_with fail
    refine (pick_any 6 rg m c _ A _ (hr1.alloc' _) (by omega) (by omega) (by omega)).mono ?_
    rintro e w2 ⟨x2, rfl, x20, x21, hr2, hg2, hz2⟩
    have nb2 := nb1.grown hg2 (by simp; omega)
    have bx2 := (bx1.keep ((Below.refl _ _).alloc (Nat.le_refl _) _)).grown hg2 (by simp; omega)
    have hgw2 : w.grownBy w2 (some rg) := grow_more (grow_alloc hgw1 _) hg2 (fun q hq => .inr hq)
    have hp2 := (hp1.alloc' (.cells #[.int .i64 6, .slice PA ps.length pc] 25)).grown hg2 (by omega)
    clear hg2 hz2
    obtain ⟨ns, n0, n1, n2, n3⟩ := id nb2
    go_wp2_with fail
    have hr2a : Rd w2.drew rg A m c (K + 101) := (hr2.more (by omega)).drew
    have hs2 := hgw2.size
    have hr2z := hr2.1
    have hz21 : w1.heap.size ≠ rg := by omega
    have hz22 : w1.heap.size ≠ w.heap.size := by omega
    have hz23 : w.heap.size ≠ rg := by omega
    have hz24 : some w.heap.size ≠ some rg := by intro hh; injection hh with hh; omega
    have bx2d : Box2 w2.drew w.heap.size (.int .i64 0) (.slice none 0 0) := bx2
    go_region_held3 (fun w' => w'.cell? ⟨w1.heap.size, 0, none⟩ = some (.int .i64 6) ∧ w'.cell? ⟨w1.heap.size, 1, none⟩ = some (.slice PA ps.length pc))
      ((go_split_ands; (refine ⟨?_, ?_⟩ <;> first | (with_reducible assumption) | (with_reducible refine cell_drew ?_; with_reducible assumption) | (refine cell_grow ?_ (by with_reducible assumption) hz21; with_reducible assumption) | ((repeat (first | (with_reducible assumption) | ((with_reducible refine (Below.cell (by with_reducible assumption) ?hsz).trans ?_); (case hsz => (first | omega | (simp; done) | (simp; omega) | (simp at *; omega)))) | ((with_reducible refine (World.cell?_alloc_lt _ _ _ ?hsz).trans ?_); (case hsz => (first | omega | (simp; done) | (simp; omega) | (simp at *; omega)))) | ((with_reducible refine (World.cell?_setCell_other _ _ _ _ ?hsz).trans ?_); (case hsz => (intro h; injection h with h1 h2; omega))))); done))))
      (first
        | (go_at_call 58; (with_reducible refine (pick_any _ rg m c _ A _ hr4a (by omega) (by first | decide | omega) (by first | decide | omega)).mono ?_); rintro e w5 ⟨x5, rfl, x50, x51, hr5a, hg5, hz5⟩; have bx5 := bx4.grown hg5 hz24; obtain ⟨bs5, e0, e1, e2, e3⟩ := id bx5)
        | (go_at_call 58; (with_reducible refine (pick_any _ rg m c _ A _ hr3a (by omega) (by first | decide | omega) (by first | decide | omega)).mono ?_); rintro e w4 ⟨x4, rfl, x40, x41, hr4a, hg4, hz4⟩; have bx4 := bx3.grown hg4 hz24)
        | (go_at_call 58; (with_reducible refine (pick_any _ rg m c _ A _ hr2a (by omega) (by first | decide | omega | (split <;> omega)) (by first | decide | omega | (split <;> omega))).mono ?_); rintro e w3 ⟨x3, rfl, x30, x31, hr3a, hg3, hz3⟩; have bx3 := bx2d.grown hg3 hz24))
    have hg25 : w2.grownBy w5 (some rg) := grow_more (grow_more (grow_more (grow_drew (grow_refl w2 _)) hg3 (fun q hq => .inr hq)) hg4 (fun q hq => .inr hq)) hg5 (fun q hq => .inr hq)
    have hp5 := hp2.grown hg25 (by omega)
    have hgw5 := grow_more hgw2 hg25 (fun q hq => .inr hq)
    clear hg25 n0 n1 n2 n3
    have hiv0 : 0 ≤ IntKind.i64.wrap (IntKind.i64.wrap ((IntKind.i64.wrap (IntKind.i64.wrap (x2 + 1) + x3)).tmod 6 * IntKind.i64.wrap (1 - IntKind.i64.wrap (x4.tdiv 29))) + IntKind.i64.wrap (x2 * IntKind.i64.wrap (x5.tdiv 29))) := ends_iv (by omega) (by omega) (by omega) (by omega) (by omega) (by first | omega | (have hx3 := x31; (try simp only [IntKind.wrap_i64] at hx3); omega)) (by omega) (by omega) (by omega) (by omega)
    obtain ⟨iv, hiv⟩ : ∃ iv : Int, iv = IntKind.i64.wrap (IntKind.i64.wrap ((IntKind.i64.wrap (IntKind.i64.wrap (x2 + 1) + x3)).tmod 6 * IntKind.i64.wrap (1 - IntKind.i64.wrap (x4.tdiv 29))) + IntKind.i64.wrap (x2 * IntKind.i64.wrap (x5.tdiv 29))) := ⟨_, rfl⟩
    rw [← hiv] at hiv0 ⊢
    clear hiv
    replace hr5a := hr5a.more (K' := K + 200) (by omega)
    go_wp2
    refine bodyPost_ret (v := .tuple #[.agg #[.int .i64 6, .slice PA ps.length pc], .int .i64 x2, .int .i64 iv]) (by simp [results, Try.results96, go_sem, e0, e1]) rfl ⟨_, ps, _, x2, iv, rfl, ?_, ?_, ?_, hl8, hzl, hzh, by omega, hiv0, fun _ => by omega⟩
    · refine Pipes.mono (b := w.heap.size + 1) ?_ (by omega)
      (repeat (first | (with_reducible assumption) | ((with_reducible refine Pipes.setLow ?_ ?hsz); (case hsz => (first | omega | (simp; done) | (simp; omega) | (simp at *; omega)))) | (with_reducible refine Pipes.alloc' ?_ _) | (with_reducible refine Pipes.drew' ?_) | (with_reducible refine Pipes.drewN' ?_ _) | ((with_reducible refine Pipes.keep ?_ (by with_reducible assumption)))))
    · (repeat (first | (with_reducible assumption) | ((with_reducible refine Rd.set ?_ ?hsz _); (case hsz => (first | omega | (simp; done) | (simp; omega) | (simp at *; omega)))) | (with_reducible refine Rd.alloc' ?_ _) | (with_reducible refine Rd.drew ?_) | (with_reducible refine Rd.drewN ?_ _) | ((with_reducible refine Rd.keep ?_ (by with_reducible assumption)))))
    · exact grow_set (grow_set hgw5 (.inl (Nat.le_refl _)) _) (.inl (Nat.le_refl _)) _

end Go.Proofs.Ytlaeckjfjleplaa

/- Contracts of the laws' draws: a net whose pipes are often all free. -/
namespace Go.Proofs.Ytlaeckjfjleplaa
open Go.RowKit

theorem set2_list (qs : List Pp) (k : Nat) (hk : k < qs.length) (x : Int) :
    (qs.flatMap Pp.cells).set (k * 5 + 2) (.int .i64 x) = (qs.set k ⟨qs[k].fr, qs[k].to, x, qs[k].mo, qs[k].co⟩).flatMap Pp.cells := by
  induction qs generalizing k with
  | nil => simp at hk
  | cons q qs ih =>
    cases k with
    | zero => simp [List.flatMap_cons, Pp.cells]
    | succ k =>
      have h := ih k (by simpa using hk)
      have e : (k + 1) * 5 + 2 = (k * 5 + 2) + 5 := by omega
      rw [e, List.set_cons_succ, List.flatMap_cons, List.flatMap_cons, List.getElem_cons_succ, ← h]
      simp [Pp.cells]

set_option maxRecDepth 20000 in
set_option maxHeartbeats 4000000 in
set_option maxRecDepth 20000 in
theorem l20Free_any (n : Int) (rg m c K : Nat) (A : Option Addr) (w : World) (h : Rd w rg A m c K) (hK : K ≤ 40000) (h1 : 1 ≤ n) (h2 : n ≤ 1000) :
    Calls Try.prog 55 #[.pointer (some ⟨rg, 0, none⟩), .int .i64 n] w (Ended w rg A m c (K + 300)) := by
  have hrg := h.1
  go_enter Try.func55, Try.ntmps55
  go_wp2_with fail
  refine (l20Ends_any n rg m c K A _ (h.keep (by (repeat (first | (with_reducible assumption) | (with_reducible exact Below.refl _ _) | ((with_reducible refine Below.alloc ?_ ?hsz _); (case hsz => (first | omega | (simp; done) | (simp; omega) | (simp at *; omega)))) | ((with_reducible refine Below.setCell ?_ ?hsz _); (case hsz => (first | omega | (simp; done) | (simp; omega) | (simp at *; omega)))) | (with_reducible refine Below.drew ?_) | (with_reducible refine below_drewN ?_ _) | ((with_reducible refine Below.trans ?_ (Below.mono (by with_reducible assumption) ?hsz)); (case hsz => (first | omega | (simp; done) | (simp; omega) | (simp at *; omega)))))))) (by omega) h1 h2).mono ?_
  rintro e w1 ⟨z, ps, v, i, j, rfl, hp1, hr1, hg1, hl8, hzl, hzh⟩
  rw [World.size_alloc] at hp1
  have bx1 : Box2 w1 w.heap.size (.int .i64 0) (.slice none 0 0) := (Box2.new w _ _ 25).grown hg1 (by simp; omega)
  have hs1 := hg1.size
  rw [World.size_alloc] at hs1
  have hgw1 : w.grownBy w1 (some rg) := grow_more (grow_alloc (grow_refl w _) _) hg1 (fun q hq => .inr hq)
  obtain ⟨PA, pc, rfl, hc1, hc2, hsm, -⟩ := hp1.form
  unfold maxLen at hc2
  have nb1 : Box2 (w1.alloc (.cells #[.int .i64 z, .slice PA ps.length pc] 25)) w1.heap.size (.int .i64 z) (.slice PA ps.length pc) := Box2.new _ _ _ _
  clear hg1
  go_wp2_with fail
  refine (pick_any 9 rg m c _ A _ (hr1.alloc' _) (by omega) (by omega) (by omega)).mono ?_
  rintro e w2 ⟨x2, rfl, x20, x21, hr2, hg2, hz2⟩
  have nb2 := nb1.grown hg2 (by simp; omega)
  have bx2 := (bx1.keep ((Below.refl _ _).alloc (Nat.le_refl _) _)).grown hg2 (by simp; omega)
  have hgw2 : w.grownBy w2 (some rg) := grow_more (grow_alloc hgw1 _) hg2 (fun q hq => .inr hq)
  have hp2 := (hp1.alloc' (.cells #[.int .i64 z, .slice PA ps.length pc] 25)).grown hg2 (by omega)
  have hgp : ∀ q, (Value.slice PA ps.length pc).ownBlock = some q → q < w1.heap.size ∧ w.heap.size + 1 ≤ q := fun q hq => ⟨(hp1.1.lt q hq).2, (hp1.1.lt q hq).1⟩
  clear hg2 hz2 hp1 hr1 nb1 bx1 hgw1
  by_cases hx : 0 < x2
  · go_wp2_with fail
    go_loopw [10] (fun t wr => ∃ (k : Nat) (qs : List Pp), k ≤ ps.length ∧ t = .int .i64 k ∧ qs.length = ps.length ∧ wr.ownsRow (w.heap.size + 1) 46 5 (.slice PA ps.length pc) ps.length (qs.flatMap Pp.cells) ∧
        Rd wr rg A m c (K + 250) ∧ w.grownBy wr (some rg) ∧ Box2 wr w.heap.size (.int .i64 0) (.slice none 0 0) ∧ Box2 wr w1.heap.size (.int .i64 z) (.slice PA ps.length pc)) (fun t _ => ps.length - (intOf t).toNat)
    case atStart => exact ⟨0, ps, by omega, rfl, rfl, hp2.1, hr2.more (by omega), hgw2, bx2, nb2⟩
    case round =>
      obtain ⟨k, qs, hk, rfl, hql, hown, hr, hg, bx, nb⟩ := hrel
      clear hr2 hgw2 bx2 nb2 hp2
      have Hql := Lib.hid hql
      clear hql
      obtain ⟨ns, n0, n1, n2, n3⟩ := id nb
      by_cases hlt : k < ps.length
      · obtain ⟨gp, cap, hv, hga, hgb⟩ := hown.form (by omega)
        injection hv with hv1 hv2 hv3
        subst hv1
        subst hv3
        have hkq : k < qs.length := by have := Hql.out; omega
        obtain ⟨hgw, ⟨o0, o1, o2, o3, o4⟩, hof⟩ := own_cells5 (k := k) hown hkq
        have hgp' := (hgp gp rfl).1
        have hne1 : gp ≠ w1.heap.size := by omega
        have hof2 := hof (k * 5 + 2)
        go_upto_region 6 with fail
        go_region_held3 (fun w' => w'.cell? ⟨w1.heap.size, 1, none⟩ = some (.slice (some ⟨gp, 0, none⟩) ps.length pc) ∧ w'.cell? ⟨gp, k * 5 + 3, none⟩ = some (.int .i64 qs[k].mo))
          (first | exact ⟨cell_drew n1, cell_drew o3⟩ | exact ⟨(World.cell?_setCell_other _ _ _ _ (by intro h; injection h with h1 h2; omega)).trans (cell_drew n1), (World.cell?_setCell_other _ _ _ _ (by intro h; injection h with h1 h2; omega)).trans (cell_drew o3)⟩)
          (fail)
        have hset : ∀ x : Int, (wr.setCell ⟨gp, k * 5 + 2, none⟩ (.int .i64 x)).ownsRow (w.heap.size + 1) 46 5 (.slice (some ⟨gp, 0, none⟩) ps.length pc) ps.length ((qs.set k ⟨qs[k].fr, qs[k].to, x, qs[k].mo, qs[k].co⟩).flatMap Pp.cells) := fun x => by
          have hh := (hown.stored (k * 5 + 2) (.int .i64 x)).1
          rw [set2_list qs k hkq x] at hh
          exact hh
        have Hset := Lib.hid hset
        clear hset
        all_goals
          go_wp2
          go_roundw
          case rel => exact ⟨k + 1, qs.set k ⟨qs[k].fr, qs[k].to, (if qs[k].mo < 0 then qs[k].mo else 0), qs[k].mo, qs[k].co⟩, by omega, by go_num, by simp; exact Hql.out, Hset.out _, (hr.set (by simp; omega) _).drew, grow_drew (grow_set hg (.inl (by simp; omega)) _), bx.far (by simp; omega) _, nb.far (by simp; omega) _⟩
          case measure => simp [intOf]; omega
      · obtain ⟨bs, b0, b1, b2, b3⟩ := id bx
        have hP : Pipes wr (w.heap.size + 1) (.slice PA ps.length pc) qs := ⟨by rw [Hql.out]; exact hown, by rw [Hql.out]; exact hsm⟩
        go_wp2
        refine bodyPost_ret (v := .tuple #[.agg #[.int .i64 z, .slice PA ps.length pc], .int .i64 i, .int .i64 j]) (by simp [results, Try.results55, go_sem, b0, b1]) rfl ⟨z, qs, _, i, j, rfl, ?_, ?_, ?_, by rw [Hql.out]; exact hl8, hzl, hzh⟩
        · refine Pipes.mono (b := w.heap.size + 1) ?_ (by omega)
          (repeat (first | (with_reducible assumption) | ((with_reducible refine Pipes.setLow ?_ ?hsz); (case hsz => (first | omega | (simp; done) | (simp; omega) | (simp at *; omega)))) | (with_reducible refine Pipes.alloc' ?_ _) | (with_reducible refine Pipes.drew' ?_) | (with_reducible refine Pipes.drewN' ?_ _) | ((with_reducible refine Pipes.keep ?_ (by with_reducible assumption)))))
        · refine Rd.more (K := K + 250) ?_ (by omega)
          (repeat (first | (with_reducible assumption) | ((with_reducible refine Rd.set ?_ ?hsz _); (case hsz => (first | omega | (simp; done) | (simp; omega) | (simp at *; omega)))) | (with_reducible refine Rd.alloc' ?_ _) | (with_reducible refine Rd.drew ?_) | (with_reducible refine Rd.drewN ?_ _) | ((with_reducible refine Rd.keep ?_ (by with_reducible assumption)))))
        · exact grow_set (grow_set hg (.inl (Nat.le_refl _)) _) (.inl (Nat.le_refl _)) _
  · obtain ⟨ns, n0, n1, n2, n3⟩ := id nb2
    obtain ⟨bs, b0, b1, b2, b3⟩ := id bx2
    replace hr2 := hr2.more (K' := K + 250) (by omega)
    go_wp2
    refine bodyPost_ret (v := .tuple #[.agg #[.int .i64 z, .slice PA ps.length pc], .int .i64 i, .int .i64 j]) (by simp [results, Try.results55, go_sem, b0, b1]) rfl ⟨z, ps, _, i, j, rfl, ?_, ?_, ?_, hl8, hzl, hzh⟩
    · refine Pipes.mono (b := w.heap.size + 1) ?_ (by omega)
      (repeat (first | (with_reducible assumption) | ((with_reducible refine Pipes.setLow ?_ ?hsz); (case hsz => (first | omega | (simp; done) | (simp; omega) | (simp at *; omega)))) | (with_reducible refine Pipes.alloc' ?_ _) | (with_reducible refine Pipes.drew' ?_) | (with_reducible refine Pipes.drewN' ?_ _) | ((with_reducible refine Pipes.keep ?_ (by with_reducible assumption)))))
    · refine Rd.more (K := K + 250) ?_ (by omega)
      (repeat (first | (with_reducible assumption) | ((with_reducible refine Rd.set ?_ ?hsz _); (case hsz => (first | omega | (simp; done) | (simp; omega) | (simp at *; omega)))) | (with_reducible refine Rd.alloc' ?_ _) | (with_reducible refine Rd.drew ?_) | (with_reducible refine Rd.drewN ?_ _) | ((with_reducible refine Rd.keep ?_ (by with_reducible assumption)))))
    · exact grow_set (grow_set hgw2 (.inl (Nat.le_refl _)) _) (.inl (Nat.le_refl _)) _

end Go.Proofs.Ytlaeckjfjleplaa

/- Contracts of the laws' draws of chapter 4: a net, a flow and two nodes. -/
namespace Go.Proofs.Ytlaeckjfjleplaa
open Go.RowKit

/-- what the draw leaves -/
def DrawnParts (w : World) (e : Ending) (w' : World) : Prop :=
  ∃ (z : Int) (ps : List Pp) (v : Value) (xs : List Int) (u : Value) (i j : Int), e = .returned (.tuple #[.agg #[.int .i64 z, v], u, .int .i64 i, .int .i64 j]) ∧ Pipes w' w.heap.size v ps ∧ Ints w' w.heap.size u xs ∧ Below w.heap.size w w' ∧ ps.length ≤ 8 ∧ 1 ≤ z ∧ z ≤ 6

/-- empty pipes, handed back -/
def peV (w0 nb B : Nat) (z i j : Int) (S : Value) (L : Nat) : Nat → Value → World → Prop
  | 0, x, _ => x = .agg #[.int .i64 z, S]
  | 1, x, _ => x = .pointer (some ⟨nb, 1, none⟩)
  | 2, x, _ => x = S
  | 3, x, _ => x = .int .i64 L
  | 4, x, wx => ∃ xs, Ints wx B x xs
  | 5, x, _ => x = .int .i64 i
  | 6, x, _ => x = .int .i64 j
  | 7, _, wx => Box2 wx w0 (.int .i64 z) S
  | 8, x, wx => ∃ xs, Ints wx B x xs
  | 9, x, _ => x = .int .i64 i
  | 10, x, _ => x = .int .i64 j
  | _, _, _ => True
def peR (w0 : Nat) : Nat → World → World → Prop
  | 7, wx, wy => wx.grownBy wy (some w0)
  | _, wx, wy => Below wx.heap.size wx wy

/-- amounts that go round, added -/
def pbV (B rg : Nat) (z : Int) (S F : Value) : Nat → Value → World → Prop
  | 0, x, _ => x = .agg #[.int .i64 z, S]
  | 1, x, _ => x = F
  | 2, x, _ => x = .pointer (some ⟨rg, 0, none⟩)
  | 3, x, _ => x = .agg #[.int .i64 z, S]
  | 4, x, wx => ∃ xs, Ints wx B x xs
  | 5, x, wx => ∃ r b xs, x = .tuple #[r, .bool b] ∧ Ints wx B r xs
  | 6, x, wx => ∃ r b xs, x = .tuple #[r, .bool b] ∧ Ints wx B r xs
  | 7, x, wx => ∃ xs, Ints wx B x xs
  | 8, x, _ => ∃ b, x = .bool b
  | 9, x, wx => ∃ xs, Ints wx B x xs
  | 10, x, _ => ∃ b, x = .bool b
  | _, _, _ => True

set_option maxHeartbeats 4000000 in
set_option maxRecDepth 20000 in
theorem drawPartsOf_any (v : Value) (n : Nat) (w : World) (h : ArgBytes w v n) : Calls Try.prog 27 #[v] w (DrawnParts w) := by
  have bx0 := Box2.new w (.int .i64 0) (.slice none 0 0) 25
  go_enter Try.func27, Try.ntmps27
  go_wp2_with fail
  refine (l20Open_any v n _ (h.keep (by (repeat (first | (with_reducible assumption) | (with_reducible exact Below.refl _ _) | ((with_reducible refine Below.alloc ?_ ?hsz _); (case hsz => (first | omega | (simp; done) | (simp; omega) | (simp at *; omega)))) | ((with_reducible refine Below.setCell ?_ ?hsz _); (case hsz => (first | omega | (simp; done) | (simp; omega) | (simp at *; omega)))) | (with_reducible refine Below.drew ?_) | (with_reducible refine below_drewN ?_ _) | ((with_reducible refine Below.trans ?_ (Below.mono (by with_reducible assumption) ?hsz)); (case hsz => (first | omega | (simp; done) | (simp; omega) | (simp at *; omega))))))))).mono ?_
  rintro e w1 ⟨A, m, c, rfl, hr1, hb1, hz1⟩
  have bx1 := bx0.keep (hb1.mono (by simp))
  rw [World.size_alloc] at hr1 hz1
  have hgo : Below w.heap.size w w1 := by (repeat (first | (with_reducible assumption) | (with_reducible exact Below.refl _ _) | ((with_reducible refine Below.alloc ?_ ?hsz _); (case hsz => (first | omega | (simp; done) | (simp; omega) | (simp at *; omega)))) | ((with_reducible refine Below.setCell ?_ ?hsz _); (case hsz => (first | omega | (simp; done) | (simp; omega) | (simp at *; omega)))) | (with_reducible refine Below.drew ?_) | (with_reducible refine below_drewN ?_ _) | ((with_reducible refine Below.trans ?_ (Below.mono (by with_reducible assumption) ?hsz)); (case hsz => (first | omega | (simp; done) | (simp; omega) | (simp at *; omega))))))
  go_wp2_with fail
  with_reducible refine (l20Free_any 14 (w.heap.size + 1) m c 0 A _ hr1 (by omega) (by omega) (by omega)).mono ?_
  rintro e w2 ⟨z, ps, u, i, j, rfl, hp2, hr2, hg2, hl8, hzl, hzh, hi0, hj0, hiz⟩
  have bx2 := bx1.grown hg2 (by simp)
  have hs2 := hg2.size
  have hgw2 : Below w.heap.size w w2 := hgo.trans (below_grow hg2 (by omega) (fun q hq => by injection hq with hq; omega))
  obtain ⟨PA, pc, rfl, hc1, hc2, hsm, -⟩ := hp2.form
  unfold maxLen at hc2
  have nb2 : Box2 (w2.alloc (.cells #[.int .i64 z, .slice PA ps.length pc] 25)) w2.heap.size (.int .i64 z) (.slice PA ps.length pc) := Box2.new _ _ _ _
  have hpl : ∀ q, (Value.slice PA ps.length pc).ownBlock = some q → q < w2.heap.size := fun q hq => (hp2.1.lt q hq).2
  have HPL := Lib.hid hpl
  clear hg2 hr1 bx1 hiz hpl
  obtain ⟨ns, n0, n1, n2, n3⟩ := id nb2
  go_wp2_with fail
  with_reducible refine (specGreatestFlow_any z i j _ ps _ _ (hp2.alloc' _)).mono ?_
  rintro e w3 ⟨r3, rfl, hx3, hb3⟩
  have nb3 := nb2.keep hb3
  have bx3 := (bx2.keep ((Below.refl _ _).alloc (Nat.le_refl _) (.cells #[.int .i64 z, .slice PA ps.length pc] 25))).keep hb3
  have hp3 := (hp2.alloc' (.cells #[.int .i64 z, .slice PA ps.length pc] 25)).keep hb3
  have hr3 := (hr2.alloc' (.cells #[.int .i64 z, .slice PA ps.length pc] 25)).keep hb3
  have hgw3 : Below w.heap.size w w3 := (hgw2.alloc hgw2.size _).trans (hb3.mono (by have := hgw2.size; simp; omega))
  have hz3 := hb3.size
  rw [World.size_alloc] at hx3 hz3
  obtain ⟨xs, hx3⟩ : ∃ xs, Ints w3 (w2.heap.size + 1) r3 xs := ⟨_, hx3⟩
  obtain ⟨FA, fc, rfl, hf1, hf2, hfs, -⟩ := hx3.form
  unfold maxLen at hf2
  have hgn : greatB z ps i j = true → netOkB z ps = true := fun hg => by
    simp only [greatB, freeB, Bool.and_eq_true] at hg
    exact hg.1.1
  have HGN := Lib.hid hgn
  clear hgn n0 n1 n2 n3 ns bx2 nb2 hp2 hr2 hgw2 hb3 bx0 hgo
  obtain ⟨ns, n0, n1, n2, n3⟩ := id nb3
  have hwz : w.heap.size + 1 < w3.heap.size := by omega
  have hwn : w.heap.size + 1 < w2.heap.size := by omega
  have hmk := fun W => run_make_ints (n := ps.length) hsm W
  rcases hgb : greatB z ps i j with _ | _
  · clear HGN hgb
    go_wp2_with fail
    clear n0 n1 n2 n3 ns
    refine wp_region_flow 11 none [(0, 31), (1, 32), (2, 33), (3, 34), (4, 35), (5, 36), (6, 37), (8, 3), (9, 4), (10, 5)]
      (fun k x _ wx => peV w.heap.size w2.heap.size w1.heap.size z i j (.slice PA ps.length pc) ps.length k x wx) (peR w.heap.size)
      (fun _ wx => Pipes wx w1.heap.size (.slice PA ps.length pc) ps ∧ Box2 wx w2.heap.size (.int .i64 z) (.slice PA ps.length pc) ∧ (∃ u0 u1, Box2 wx w.heap.size u0 u1) ∧ Below w.heap.size w wx ∧ w3.heap.size ≤ wx.heap.size) (by kernel_rfl) (by kernel_rfl) rfl
      ⟨hp3, nb3, ⟨_, _, bx3⟩, ⟨hgw3.os, hgw3.tape, hgw3.output, hgw3.size, hgw3.block⟩, Nat.le_refl _⟩ ?_ ?_ ?_ ?_
    · intro a k ha hk hal x u wx wy hR hV
      have ha' : a < 11 := ha
      have hk' : k < 11 := hk
      have h7 : a = 7 → aliveB _ 7 k = true := fun e => by rw [← e]; exact hal
      by_cases n7 : a = 7
      · have h7 := h7 n7
        subst n7
        have hg : wx.grownBy wy (some w.heap.size) := hR
        rcases k with _ | _ | _ | _ | _ | _ | _ | _ | _ | _ | _ | k
        all_goals first | exact hV | (exfalso; revert h7; decide) | (exfalso; omega) | skip
        all_goals
          obtain ⟨xs, h⟩ := hV
          exact ⟨xs, h.grown hg (by omega)⟩
      · have hg : Below wx.heap.size wx wy := by
          unfold peR at hR
          split at hR
          · exact absurd rfl n7
          · exact hR
        rcases k with _ | _ | _ | _ | _ | _ | _ | _ | _ | _ | _ | k
        all_goals first | exact hV | exact Box2.keep hV hg | (obtain ⟨xs, h⟩ := hV; exact ⟨xs, h.keep hg⟩) | (exfalso; omega)
    · exact fun _ _ _ _ _ _ _ h => h
    · simp only [eachOp, fillF, List.setIfInBounds_toArray, List.set_cons_succ, List.set_cons_zero]
      refine ⟨?_, ?_, ?_, ?_, ?_, ?_, ?_, ?_, ?_, ?_, ?_, trivial⟩ <;> intro u f wx hC hd <;> (try simp [allV, useOf, Region.binds] at hd) <;> obtain ⟨cp, ⟨ns, n0, n1, n2, n3⟩, cr, cb, cz⟩ := id hC
      · go_wp2
        exact ⟨_, rfl, rfl, Below.refl _ _, hC⟩
      · go_wp2
        exact ⟨_, rfl, rfl, Below.refl _ _, hC⟩
      · rw [show u 1 = _ from hd]
        go_wp2
        exact ⟨_, rfl, rfl, Below.refl _ _, hC⟩
      · rw [show u 2 = _ from hd]
        go_wp2
        exact ⟨_, rfl, rfl, Below.refl _ _, hC⟩
      · rw [show u 3 = _ from hd]
        have hm := Ints_made (b := w1.heap.size) (n := ps.length) wx (by omega) hsm rfl
        go_wp2
        exact ⟨_, rfl, ⟨_, hm⟩, (Below.refl _ _).alloc (Nat.le_refl _) _, cp.alloc' _, hC.2.1.keep ((Below.refl _ _).alloc (Nat.le_refl _) _), (by obtain ⟨u0, u1, hb⟩ := cr; exact ⟨u0, u1, hb.keep ((Below.refl _ _).alloc (Nat.le_refl _) _)⟩), cb.alloc cb.size _, by simp; omega⟩
      · go_wp2
        exact ⟨_, rfl, rfl, Below.refl _ _, hC⟩
      · go_wp2
        exact ⟨_, rfl, rfl, Below.refl _ _, hC⟩
      · rw [show u 0 = _ from hd]
        obtain ⟨u0, u1, hbx⟩ := cr
        have e1 := (hbx.set0 (.int .i64 z)).set1 (.slice PA ps.length pc)
        have e2 := (hC.2.1.far (p := ⟨w.heap.size, 0, none⟩) (by simp; omega) (.int .i64 z)).far (p := ⟨w.heap.size, 1, none⟩) (by simp; omega) (.slice PA ps.length pc)
        have e3 := (cp.setLow (a := ⟨w.heap.size, 0, none⟩) (u := .int .i64 z) (by simp; omega)).setLow (a := ⟨w.heap.size, 1, none⟩) (u := .slice PA ps.length pc) (by simp; omega)
        have e4 : wx.grownBy ((wx.setCell ⟨w.heap.size, 0, none⟩ (.int .i64 z)).setCell ⟨w.heap.size, 1, none⟩ (.slice PA ps.length pc)) (some w.heap.size) := grow_set (p := ⟨w.heap.size, 1, none⟩) (grow_set (p := ⟨w.heap.size, 0, none⟩) (grow_refl _ _) (.inr rfl) _) (.inr rfl) _
        have hF := Lib.hid (And.intro e1 (And.intro e2 (And.intro e3 e4)))
        obtain ⟨r0, r1, r2, r3, r4⟩ := id hbx
        clear e1 e2 e3 e4
        go_wp2
        exact ⟨undef, rfl, hF.out.1, hF.out.2.2.2, hF.out.2.2.1, hF.out.2.1, ⟨_, _, hF.out.1⟩, (cb.setCell (Nat.le_refl _) _).setCell (Nat.le_refl _) _, by simp; omega⟩
      · obtain ⟨xs', hx'⟩ : ∃ xs', Ints wx w1.heap.size (u 4) xs' := by first | exact hd | exact hd.1 | exact hd.2
        go_wp2
        exact ⟨_, rfl, ⟨_, hx'⟩, Below.refl _ _, hC⟩
      · rw [show u 5 = _ from hd]
        go_wp2
        exact ⟨_, rfl, rfl, Below.refl _ _, hC⟩
      · rw [show u 6 = _ from hd]
        go_wp2
        exact ⟨_, rfl, rfl, Below.refl _ _, hC⟩
    · intro u f wx hC hfin
      have h7 : Box2 wx w.heap.size (.int .i64 z) (.slice PA ps.length pc) := hfin 7 (by decide) (by decide)
      obtain ⟨xs', h8⟩ : ∃ xs', Ints wx w1.heap.size (u 8) xs' := hfin 8 (by decide) (by decide)
      have h9 : u 9 = .int .i64 i := hfin 9 (by decide) (by decide)
      have h10 : u 10 = .int .i64 j := hfin 10 (by decide) (by decide)
      simp only [fillEnd, fillF, Act.put, List.setIfInBounds_toArray, List.set_cons_succ, List.set_cons_zero]
      rw [h9, h10]
      obtain ⟨bs, b0, b1, b2, b3⟩ := id h7
      go_wp2
      refine bodyPost_ret (v := .tuple #[.agg #[.int .i64 z, .slice PA ps.length pc], u 8, .int .i64 i, .int .i64 j]) (by simp [results, Try.results27, go_sem, b0, b1]) rfl ⟨z, ps, _, xs', _, i, j, rfl, ?_, ?_, hC.2.2.2.1, hl8, hzl, hzh⟩
      · exact hC.1.mono (by omega)
      · exact h8.mono (by omega)
  · have hok := HGN.out hgb
    clear hgb hmk
    go_wp2_with fail
    clear n0 n1 n2 n3 ns
    have hgw3' : ∀ wx, w3.grownBy wx (some (w.heap.size + 1)) → Below w.heap.size w wx := fun wx hg => hgw3.trans (below_grow hg (by omega) (fun q hq => by injection hq with hq; omega))
    refine wp_region_flow 11 none [(0, 39), (1, 40), (2, 41), (3, 42), (4, 43), (5, 44), (6, 38), (7, 45), (8, 46), (9, 12), (10, 13)]
      (fun k x _ wx => pbV (w2.heap.size + 1) (w.heap.size + 1) z (.slice PA ps.length pc) (.slice FA xs.length fc) k x wx) (fun _ wx wy => wx.grownBy wy (some (w.heap.size + 1)))
      (fun f wx => f ≤ 11 ∧ Rd wx (w.heap.size + 1) A m c (300 + 100 * (11 - f)) ∧ w3.grownBy wx (some (w.heap.size + 1))) (by kernel_rfl) (by kernel_rfl) rfl
      ⟨Nat.le_refl _, hr3.drew.more (by omega), grow_drew (grow_refl _ _)⟩ ?_ ?_ ?_ ?_
    · intro a k ha hk hal x u wx wy hR hV
      have hk' : k < 11 := hk
      rcases k with _ | _ | _ | _ | _ | _ | _ | _ | _ | _ | _ | k
      all_goals first | exact hV | (obtain ⟨ys, h⟩ := hV; exact ⟨ys, Ints.grown h hR (by omega)⟩) | (obtain ⟨r, b, ys, h1, h2⟩ := hV; exact ⟨r, b, ys, h1, Ints.grown h2 hR (by omega)⟩) | (exfalso; omega)
    · exact fun _ _ _ _ _ _ _ h => h
    · simp only [eachOp, fillF, List.setIfInBounds_toArray, List.set_cons_succ, List.set_cons_zero]
      refine ⟨?_, ?_, ?_, ?_, ?_, ?_, ?_, ?_, ?_, ?_, ?_, trivial⟩ <;> intro u f wx hC hd <;> (try simp [allV, useOf, Region.binds] at hd) <;> obtain ⟨c1', cr, cg⟩ := id hC <;> have hC' : f ≤ 11 ∧ Rd wx (w.heap.size + 1) A m c (300 + 100 * (11 - f)) ∧ w3.grownBy wx (some (w.heap.size + 1)) := ⟨by omega, cr.more (by omega), cg⟩
      · obtain ⟨ns, n0, n1, n2, n3⟩ := nb3.grown cg (by simp; omega)
        go_wp2
        exact ⟨_, rfl, rfl, grow_refl _ _, hC'⟩
      · go_wp2
        exact ⟨_, rfl, rfl, grow_refl _ _, hC'⟩
      · go_wp2
        exact ⟨_, rfl, rfl, grow_refl _ _, hC'⟩
      · obtain ⟨ns, n0, n1, n2, n3⟩ := nb3.grown cg (by simp; omega)
        go_wp2
        exact ⟨_, rfl, rfl, grow_refl _ _, hC'⟩
      · have h2 : u 2 = .pointer (some ⟨w.heap.size + 1, 0, none⟩) := by first | exact hd.1 | exact hd.2
        have h3 : u 3 = .agg #[.int .i64 z, .slice PA ps.length pc] := by first | exact hd.2 | exact hd.1
        rw [h2, h3]
        have hp := (hp3.grown cg (by omega))
        have hzx := cg.size
        go_wp2_with fail
        refine (l20Round_any z _ ps w1.heap.size (w.heap.size + 1) m c _ A wx cr (by omega) hp (by omega) hok).mono ?_
        rintro e wy ⟨g, k1, ys, rfl, hy, hyl, hry, hgy⟩
        go_wp2
        exact ⟨.slice (some ⟨g, 0, none⟩) ps.length k1, rfl, ⟨ys, hy.mono (by omega)⟩, hgy, by omega, hry.more (by omega), grow_more cg hgy (fun q hq => .inr hq)⟩
      · obtain ⟨h0, h1, h4⟩ := hd
        obtain ⟨ys, hy⟩ : ∃ ys, Ints wx (w2.heap.size + 1) (u 4) ys := by first | exact h4 | exact h1 | exact h0
        have e0 : u 0 = .agg #[.int .i64 z, .slice PA ps.length pc] := by first | exact h0 | exact h1 | exact h4
        have e1 : u 1 = .slice FA xs.length fc := by first | exact h1 | exact h0 | exact h4
        clear h0 h1 h4
        rw [e0, e1]
        have hp := (hp3.grown cg (by omega))
        have hx := (hx3.grown cg (by omega))
        have hzx := cg.size
        go_wp2_with fail
        refine (specBothFlows_any z _ _ _ ps xs ys _ _ _ wx hp hx hy).mono ?_
        rintro e wy ⟨s, rfl, hs, hby⟩
        go_wp2
        exact ⟨_, rfl, ⟨s, _, _, rfl, hs.mono (by omega)⟩, grow_below (grow_refl _ _) hby, by omega, (cr.keep hby).more (by omega), grow_below cg hby⟩
      · obtain ⟨r, b, ys, h5, hy⟩ : ∃ r b ys, u 5 = .tuple #[r, .bool b] ∧ Ints wx (w2.heap.size + 1) r ys := by first | exact hd | exact hd.1 | exact hd.2
        rw [h5]
        go_wp2
        exact ⟨_, rfl, ⟨r, b, ys, rfl, hy⟩, grow_refl _ _, hC'⟩
      · obtain ⟨r, b, ys, h5, hy⟩ : ∃ r b ys, u 6 = .tuple #[r, .bool b] ∧ Ints wx (w2.heap.size + 1) r ys := by first | exact hd | exact hd.1 | exact hd.2
        rw [h5]
        go_wp2
        exact ⟨_, rfl, ⟨ys, hy⟩, grow_refl _ _, hC'⟩
      · obtain ⟨r, b, ys, h5, hy⟩ : ∃ r b ys, u 6 = .tuple #[r, .bool b] ∧ Ints wx (w2.heap.size + 1) r ys := by first | exact hd | exact hd.1 | exact hd.2
        rw [h5]
        go_wp2
        exact ⟨_, rfl, ⟨b, rfl⟩, grow_refl _ _, hC'⟩
      · obtain ⟨ys, hy⟩ : ∃ ys, Ints wx (w2.heap.size + 1) (u 7) ys := by first | exact hd | exact hd.1 | exact hd.2
        go_wp2
        exact ⟨_, rfl, ⟨ys, hy⟩, grow_refl _ _, hC'⟩
      · obtain ⟨b, h5⟩ : ∃ b, u 8 = .bool b := by first | exact hd | exact hd.1 | exact hd.2
        rw [h5]
        go_wp2
        exact ⟨_, rfl, ⟨b, rfl⟩, grow_refl _ _, hC'⟩
    · intro u f wx hC hfin
      obtain ⟨ys, h9⟩ : ∃ ys, Ints wx (w2.heap.size + 1) (u 9) ys := hfin 9 (by decide) (by decide)
      obtain ⟨b, h10⟩ : ∃ b, u 10 = .bool b := hfin 10 (by decide) (by decide)
      obtain ⟨c1', cr, cg⟩ := hC
      replace cr := cr.more (K' := 1500) (by omega)
      simp only [fillEnd, fillF, Act.put, List.setIfInBounds_toArray, List.set_cons_succ, List.set_cons_zero]
      rw [h10]
      have nbx := nb3.grown cg (by simp; omega)
      have bxx := bx3.grown cg (by simp)
      have hpx := hp3.grown cg (by omega)
      have hxx := hx3.grown cg (by omega)
      have hbw := hgw3' _ cg
      have hzx := cg.size
      clear hfin nb3 bx3 hp3 hx3 cg hgw3 hgw3' hr3 HGN
      cases b with
      | false =>
        obtain ⟨wy, hwy⟩ : ∃ wy, wy = wx := ⟨_, rfl⟩
        subst hwy
        have nby := nbx
        have bxy := bxx
        have hpy := hpx
        have hby := hbw
        have cry := cr
        obtain ⟨zs, v10, hv10, hfy⟩ : ∃ zs v10, v10 = .slice FA xs.length fc ∧ Ints wy (w2.heap.size + 1) v10 zs := ⟨_, _, rfl, hxx⟩
        rw [← hv10]
        clear nbx bxx hpx hxx hbw cr h9 h10 hv10 hf1 hf2 hfs
        have hzy := hby.size
        obtain ⟨GA, gc, rfl, gk1, gk2, gk3, -⟩ := hfy.form
        unfold maxLen at gk2
        by_cases hl0 : 0 < zs.length
        · obtain ⟨g, rfl, hg1, hg2, k0, kf⟩ := hfy.at' 0 hl0
          clear k0 kf
          go_wp2_with fail
          refine (odd_any 12 (w.heap.size + 1) m c _ A wy cry (by omega) (by omega) (by omega)).mono ?_
          rintro e wv ⟨bo, rfl, hrv, hgv, hzv⟩
          have nbv := nby.grown hgv (by simp; omega)
          have bxv := bxy.grown hgv (by simp)
          have hpv := hpy.grown hgv (by omega)
          have hfv := hfy.grown hgv (by omega)
          have hbv := hby.trans (below_grow hgv (by omega) (fun q hq => by injection hq with hq; omega))
          obtain ⟨ns, n0, n1, n2, n3⟩ := id nbv
          obtain ⟨bs, b0, b1, b2, b3⟩ := id bxv
          clear nby bxy hpy hfy hby cry hgv
          cases bo with
          | false =>
            go_wp2
            refine bodyPost_ret (v := .tuple #[.agg #[.int .i64 z, .slice PA ps.length pc], .slice (some ⟨g, 0, none⟩) zs.length gc, .int .i64 i, .int .i64 j]) (by simp [results, Try.results27, go_sem, b0, b1]) rfl ⟨z, ps, _, zs, _, i, j, rfl, ?_, ?_, ?_, hl8, hzl, hzh⟩
            · exact ((hpv.setLow (by simp; omega)).setLow (by simp; omega)).mono (by omega)
            · exact ((hfv.setLow (by simp; omega)).setLow (by simp; omega)).mono (by omega)
            · exact (hbv.setCell (Nat.le_refl _) _).setCell (Nat.le_refl _) _
          | true =>
            obtain ⟨g', eg, -, hg2', k0, kf⟩ := hfv.at' 0 hl0
            injection eg with eg
            injection eg with eg
            subst eg
            have hgn : g ≠ w2.heap.size := by omega
            have hgw : g ≠ w.heap.size := by omega
            have hst : Ints (wv.setCell ⟨g, 0, none⟩ (.int .i64 (wrap64 (zs[0] + 1)))) (w2.heap.size + 1) (.slice (some ⟨g, 0, none⟩) zs.length gc) (zs.set 0 (wrap64 (zs[0] + 1))) := by
              have h := (hfv.1.stored 0 (.int .i64 (wrap64 (zs[0] + 1)))).1
              rw [← List.map_set] at h
              exact ⟨by rw [List.length_set]; exact h, by rw [List.length_set]; exact hfv.2⟩
            have hps : Pipes (wv.setCell ⟨g, 0, none⟩ (.int .i64 (wrap64 (zs[0] + 1)))) w1.heap.size (.slice PA ps.length pc) ps :=
              ⟨ownsRow_setCell_other hpv.1 (a := ⟨g, 0, none⟩) (fun h => by have : g < w2.heap.size := HPL.out _ h; omega) _, hpv.2⟩
            have hbs := hbv.setCell (p := ⟨g, 0, none⟩) (by simp; omega) (.int .i64 (wrap64 (zs[0] + 1)))
            have HF := Lib.hid (And.intro hst (And.intro hps hbs))
            clear hst hps hbs hfv hpv hbv
            go_wp2
            refine bodyPost_ret (v := .tuple #[.agg #[.int .i64 z, .slice PA ps.length pc], .slice (some ⟨g, 0, none⟩) zs.length gc, .int .i64 i, .int .i64 j]) (by simp [results, Try.results27, go_sem, b0, b1]) rfl ⟨z, ps, _, zs.set 0 (wrap64 (zs[0] + 1)), _, i, j, rfl, ?_, ?_, ?_, hl8, hzl, hzh⟩
            · exact ((HF.out.2.1.setLow (by simp; omega)).setLow (by simp; omega)).mono (by omega)
            · exact ((HF.out.1.setLow (by simp; omega)).setLow (by simp; omega)).mono (by omega)
            · exact (HF.out.2.2.setCell (Nat.le_refl _) _).setCell (Nat.le_refl _) _
        · have hl1 : zs.length = 0 := by omega
          rw [hl1]
          obtain ⟨ns, n0, n1, n2, n3⟩ := id nby
          obtain ⟨bs, b0, b1, b2, b3⟩ := id bxy
          have hfy' := hfy
          rw [hl1] at hfy'
          go_wp2
          refine bodyPost_ret (v := .tuple #[.agg #[.int .i64 z, .slice PA ps.length pc], .slice GA 0 gc, .int .i64 i, .int .i64 j]) (by simp [results, Try.results27, go_sem, b0, b1]) rfl ⟨z, ps, _, zs, _, i, j, rfl, ?_, ?_, ?_, hl8, hzl, hzh⟩
          · exact ((hpy.setLow (by simp; omega)).setLow (by simp; omega)).mono (by omega)
          · exact ((hfy'.setLow (by simp; omega)).setLow (by simp; omega)).mono (by omega)
          · exact (hby.setCell (Nat.le_refl _) _).setCell (Nat.le_refl _) _
      | true =>
        go_wp2_with fail
        refine (pick_any 2 (w.heap.size + 1) m c _ A wx cr (by omega) (by omega) (by omega)).mono ?_
        rintro e wy ⟨x, rfl, x0, x1, cry, hgy, hzw⟩
        have nby := nbx.grown hgy (by simp; omega)
        have bxy := bxx.grown hgy (by simp)
        have hpy := hpx.grown hgy (by omega)
        have hby := hbw.trans (below_grow hgy (by omega) (fun q hq => by injection hq with hq; omega))
        have h9y := h9.grown hgy (by omega)
        have hxy := hxx.grown hgy (by omega)
        clear nbx bxx hpx hxx hbw cr h9 h10 hgy
        by_cases hx0 : x = 0
        · have e0 : (x == 0) = true := by simp [hx0]
          obtain ⟨zs, v10, hv10, hfy⟩ : ∃ zs v10, v10 = u 9 ∧ Ints wy (w2.heap.size + 1) v10 zs := ⟨_, _, rfl, h9y⟩
          rw [← hv10]
          clear h9y hxy hv10 hf1 hf2 hfs hx0
          have hzy := hby.size
          obtain ⟨GA, gc, rfl, gk1, gk2, gk3, -⟩ := hfy.form
          unfold maxLen at gk2
          by_cases hl0 : 0 < zs.length
          · obtain ⟨g, rfl, hg1, hg2, k0, kf⟩ := hfy.at' 0 hl0
            clear k0 kf
            go_wp2_with fail
            refine (odd_any 12 (w.heap.size + 1) m c _ A wy cry (by omega) (by omega) (by omega)).mono ?_
            rintro e wv ⟨bo, rfl, hrv, hgv, hzv⟩
            have nbv := nby.grown hgv (by simp; omega)
            have bxv := bxy.grown hgv (by simp)
            have hpv := hpy.grown hgv (by omega)
            have hfv := hfy.grown hgv (by omega)
            have hbv := hby.trans (below_grow hgv (by omega) (fun q hq => by injection hq with hq; omega))
            obtain ⟨ns, n0, n1, n2, n3⟩ := id nbv
            obtain ⟨bs, b0, b1, b2, b3⟩ := id bxv
            clear nby bxy hpy hfy hby cry hgv
            cases bo with
            | false =>
              go_wp2
              refine bodyPost_ret (v := .tuple #[.agg #[.int .i64 z, .slice PA ps.length pc], .slice (some ⟨g, 0, none⟩) zs.length gc, .int .i64 i, .int .i64 j]) (by simp [results, Try.results27, go_sem, b0, b1]) rfl ⟨z, ps, _, zs, _, i, j, rfl, ?_, ?_, ?_, hl8, hzl, hzh⟩
              · exact ((hpv.setLow (by simp; omega)).setLow (by simp; omega)).mono (by omega)
              · exact ((hfv.setLow (by simp; omega)).setLow (by simp; omega)).mono (by omega)
              · exact (hbv.setCell (Nat.le_refl _) _).setCell (Nat.le_refl _) _
            | true =>
              obtain ⟨g', eg, -, hg2', k0, kf⟩ := hfv.at' 0 hl0
              injection eg with eg
              injection eg with eg
              subst eg
              have hgn : g ≠ w2.heap.size := by omega
              have hgw : g ≠ w.heap.size := by omega
              have hst : Ints (wv.setCell ⟨g, 0, none⟩ (.int .i64 (wrap64 (zs[0] + 1)))) (w2.heap.size + 1) (.slice (some ⟨g, 0, none⟩) zs.length gc) (zs.set 0 (wrap64 (zs[0] + 1))) := by
                have h := (hfv.1.stored 0 (.int .i64 (wrap64 (zs[0] + 1)))).1
                rw [← List.map_set] at h
                exact ⟨by rw [List.length_set]; exact h, by rw [List.length_set]; exact hfv.2⟩
              have hps : Pipes (wv.setCell ⟨g, 0, none⟩ (.int .i64 (wrap64 (zs[0] + 1)))) w1.heap.size (.slice PA ps.length pc) ps :=
                ⟨ownsRow_setCell_other hpv.1 (a := ⟨g, 0, none⟩) (fun h => by have : g < w2.heap.size := HPL.out _ h; omega) _, hpv.2⟩
              have hbs := hbv.setCell (p := ⟨g, 0, none⟩) (by simp; omega) (.int .i64 (wrap64 (zs[0] + 1)))
              have HF := Lib.hid (And.intro hst (And.intro hps hbs))
              clear hst hps hbs hfv hpv hbv
              go_wp2
              refine bodyPost_ret (v := .tuple #[.agg #[.int .i64 z, .slice PA ps.length pc], .slice (some ⟨g, 0, none⟩) zs.length gc, .int .i64 i, .int .i64 j]) (by simp [results, Try.results27, go_sem, b0, b1]) rfl ⟨z, ps, _, zs.set 0 (wrap64 (zs[0] + 1)), _, i, j, rfl, ?_, ?_, ?_, hl8, hzl, hzh⟩
              · exact ((HF.out.2.1.setLow (by simp; omega)).setLow (by simp; omega)).mono (by omega)
              · exact ((HF.out.1.setLow (by simp; omega)).setLow (by simp; omega)).mono (by omega)
              · exact (HF.out.2.2.setCell (Nat.le_refl _) _).setCell (Nat.le_refl _) _
          · have hl1 : zs.length = 0 := by omega
            rw [hl1]
            obtain ⟨ns, n0, n1, n2, n3⟩ := id nby
            obtain ⟨bs, b0, b1, b2, b3⟩ := id bxy
            have hfy' := hfy
            rw [hl1] at hfy'
            go_wp2
            refine bodyPost_ret (v := .tuple #[.agg #[.int .i64 z, .slice PA ps.length pc], .slice GA 0 gc, .int .i64 i, .int .i64 j]) (by simp [results, Try.results27, go_sem, b0, b1]) rfl ⟨z, ps, _, zs, _, i, j, rfl, ?_, ?_, ?_, hl8, hzl, hzh⟩
            · exact ((hpy.setLow (by simp; omega)).setLow (by simp; omega)).mono (by omega)
            · exact ((hfy'.setLow (by simp; omega)).setLow (by simp; omega)).mono (by omega)
            · exact (hby.setCell (Nat.le_refl _) _).setCell (Nat.le_refl _) _
        · have e0 : (x == 0) = false := by simp [hx0]
          obtain ⟨zs, v10, hv10, hfy⟩ : ∃ zs v10, v10 = .slice FA xs.length fc ∧ Ints wy (w2.heap.size + 1) v10 zs := ⟨_, _, rfl, hxy⟩
          rw [← hv10]
          clear h9y hxy hv10 hf1 hf2 hfs hx0
          have hzy := hby.size
          obtain ⟨GA, gc, rfl, gk1, gk2, gk3, -⟩ := hfy.form
          unfold maxLen at gk2
          by_cases hl0 : 0 < zs.length
          · obtain ⟨g, rfl, hg1, hg2, k0, kf⟩ := hfy.at' 0 hl0
            clear k0 kf
            go_wp2_with fail
            refine (odd_any 12 (w.heap.size + 1) m c _ A wy cry (by omega) (by omega) (by omega)).mono ?_
            rintro e wv ⟨bo, rfl, hrv, hgv, hzv⟩
            have nbv := nby.grown hgv (by simp; omega)
            have bxv := bxy.grown hgv (by simp)
            have hpv := hpy.grown hgv (by omega)
            have hfv := hfy.grown hgv (by omega)
            have hbv := hby.trans (below_grow hgv (by omega) (fun q hq => by injection hq with hq; omega))
            obtain ⟨ns, n0, n1, n2, n3⟩ := id nbv
            obtain ⟨bs, b0, b1, b2, b3⟩ := id bxv
            clear nby bxy hpy hfy hby cry hgv
            cases bo with
            | false =>
              go_wp2
              refine bodyPost_ret (v := .tuple #[.agg #[.int .i64 z, .slice PA ps.length pc], .slice (some ⟨g, 0, none⟩) zs.length gc, .int .i64 i, .int .i64 j]) (by simp [results, Try.results27, go_sem, b0, b1]) rfl ⟨z, ps, _, zs, _, i, j, rfl, ?_, ?_, ?_, hl8, hzl, hzh⟩
              · exact ((hpv.setLow (by simp; omega)).setLow (by simp; omega)).mono (by omega)
              · exact ((hfv.setLow (by simp; omega)).setLow (by simp; omega)).mono (by omega)
              · exact (hbv.setCell (Nat.le_refl _) _).setCell (Nat.le_refl _) _
            | true =>
              obtain ⟨g', eg, -, hg2', k0, kf⟩ := hfv.at' 0 hl0
              injection eg with eg
              injection eg with eg
              subst eg
              have hgn : g ≠ w2.heap.size := by omega
              have hgw : g ≠ w.heap.size := by omega
              have hst : Ints (wv.setCell ⟨g, 0, none⟩ (.int .i64 (wrap64 (zs[0] + 1)))) (w2.heap.size + 1) (.slice (some ⟨g, 0, none⟩) zs.length gc) (zs.set 0 (wrap64 (zs[0] + 1))) := by
                have h := (hfv.1.stored 0 (.int .i64 (wrap64 (zs[0] + 1)))).1
                rw [← List.map_set] at h
                exact ⟨by rw [List.length_set]; exact h, by rw [List.length_set]; exact hfv.2⟩
              have hps : Pipes (wv.setCell ⟨g, 0, none⟩ (.int .i64 (wrap64 (zs[0] + 1)))) w1.heap.size (.slice PA ps.length pc) ps :=
                ⟨ownsRow_setCell_other hpv.1 (a := ⟨g, 0, none⟩) (fun h => by have : g < w2.heap.size := HPL.out _ h; omega) _, hpv.2⟩
              have hbs := hbv.setCell (p := ⟨g, 0, none⟩) (by simp; omega) (.int .i64 (wrap64 (zs[0] + 1)))
              have HF := Lib.hid (And.intro hst (And.intro hps hbs))
              clear hst hps hbs hfv hpv hbv
              go_wp2
              refine bodyPost_ret (v := .tuple #[.agg #[.int .i64 z, .slice PA ps.length pc], .slice (some ⟨g, 0, none⟩) zs.length gc, .int .i64 i, .int .i64 j]) (by simp [results, Try.results27, go_sem, b0, b1]) rfl ⟨z, ps, _, zs.set 0 (wrap64 (zs[0] + 1)), _, i, j, rfl, ?_, ?_, ?_, hl8, hzl, hzh⟩
              · exact ((HF.out.2.1.setLow (by simp; omega)).setLow (by simp; omega)).mono (by omega)
              · exact ((HF.out.1.setLow (by simp; omega)).setLow (by simp; omega)).mono (by omega)
              · exact (HF.out.2.2.setCell (Nat.le_refl _) _).setCell (Nat.le_refl _) _
          · have hl1 : zs.length = 0 := by omega
            rw [hl1]
            obtain ⟨ns, n0, n1, n2, n3⟩ := id nby
            obtain ⟨bs, b0, b1, b2, b3⟩ := id bxy
            have hfy' := hfy
            rw [hl1] at hfy'
            go_wp2
            refine bodyPost_ret (v := .tuple #[.agg #[.int .i64 z, .slice PA ps.length pc], .slice GA 0 gc, .int .i64 i, .int .i64 j]) (by simp [results, Try.results27, go_sem, b0, b1]) rfl ⟨z, ps, _, zs, _, i, j, rfl, ?_, ?_, ?_, hl8, hzl, hzh⟩
            · exact ((hpy.setLow (by simp; omega)).setLow (by simp; omega)).mono (by omega)
            · exact ((hfy'.setLow (by simp; omega)).setLow (by simp; omega)).mono (by omega)
            · exact (hby.setCell (Nat.le_refl _) _).setCell (Nat.le_refl _) _

end Go.Proofs.Ytlaeckjfjleplaa
