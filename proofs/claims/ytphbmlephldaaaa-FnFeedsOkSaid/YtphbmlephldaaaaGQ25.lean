/- Plain facts. -/
import Derived.Test.YtphbmlephldaaaaGQ27
import Derived.Deep.RegionHeld3
/- Contracts of the laws' draws: a net whose pipes are often all free. -/
namespace Go.Proofs.Ytphbmlephldaaaa
open Go.RowKit

theorem set2_list (qs : List Pp) (k : Nat) (hk : k < qs.length) (x : Int) :
    (qs.flatMap Pp.cells).set (k * 5 + 2) (.int .i64 x) = (qs.set k ⟨qs[k].fr, qs[k].to, x, qs[k].mo, qs[k].co⟩).flatMap Pp.cells := by
  induction qs generalizing k with
  | nil => simp at hk
  | cons q qs ih =>
    cases k with
    | zero => simp [List.flatMap_cons, Pp.cells]
    | succ k =>
      have h := ih k (by simpa using hk)
      have e : (k + 1) * 5 + 2 = (k * 5 + 2) + 5 := by omega
      rw [e, List.set_cons_succ, List.flatMap_cons, List.flatMap_cons, List.getElem_cons_succ, ← h]
      simp [Pp.cells]

set_option maxRecDepth 20000 in
set_option maxHeartbeats 4000000 in
set_option maxRecDepth 20000 in
theorem l20Free_any (n : Int) (rg m c K : Nat) (A : Option Addr) (w : World) (h : Rd w rg A m c K) (hK : K ≤ 40000) (h1 : 1 ≤ n) (h2 : n ≤ 1000) :
    Calls Try.prog 44 #[.pointer (some ⟨rg, 0, none⟩), .int .i64 n] w (Ended w rg A m c (K + 300)) := by
  have hrg := h.1
  go_enter Try.func44, Try.ntmps44
  go_wp2_with fail
  refine (l20Ends_any n rg m c K A _ (h.keep (by (repeat (first | (with_reducible assumption) | (with_reducible exact Below.refl _ _) | ((with_reducible refine Below.alloc ?_ ?hsz _); (case hsz => (first | omega | (simp; done) | (simp; omega) | (simp at *; omega)))) | ((with_reducible refine Below.setCell ?_ ?hsz _); (case hsz => (first | omega | (simp; done) | (simp; omega) | (simp at *; omega)))) | (with_reducible refine Below.drew ?_) | (with_reducible refine below_drewN ?_ _) | ((with_reducible refine Below.trans ?_ (Below.mono (by with_reducible assumption) ?hsz)); (case hsz => (first | omega | (simp; done) | (simp; omega) | (simp at *; omega)))))))) (by omega) h1 h2).mono ?_
  rintro e w1 ⟨z, ps, v, i, j, rfl, hp1, hr1, hg1, hl8, hzl, hzh⟩
  rw [World.size_alloc] at hp1
  have bx1 : Box2 w1 w.heap.size (.int .i64 0) (.slice none 0 0) := (Box2.new w _ _ 25).grown hg1 (by simp; omega)
  have hs1 := hg1.size
  rw [World.size_alloc] at hs1
  have hgw1 : w.grownBy w1 (some rg) := grow_more (grow_alloc (grow_refl w _) _) hg1 (fun q hq => .inr hq)
  obtain ⟨PA, pc, rfl, hc1, hc2, hsm, -⟩ := hp1.form
  unfold maxLen at hc2
  have nb1 : Box2 (w1.alloc (.cells #[.int .i64 z, .slice PA ps.length pc] 25)) w1.heap.size (.int .i64 z) (.slice PA ps.length pc) := Box2.new _ _ _ _
  clear hg1
  go_wp2_with fail
  refine (pick_any 9 rg m c _ A _ (hr1.alloc' _) (by omega) (by omega) (by omega)).mono ?_
  rintro e w2 ⟨x2, rfl, x20, x21, hr2, hg2, hz2⟩
  have nb2 := nb1.grown hg2 (by simp; omega)
  have bx2 := (bx1.keep ((Below.refl _ _).alloc (Nat.le_refl _) _)).grown hg2 (by simp; omega)
  have hgw2 : w.grownBy w2 (some rg) := grow_more (grow_alloc hgw1 _) hg2 (fun q hq => .inr hq)
  have hp2 := (hp1.alloc' (.cells #[.int .i64 z, .slice PA ps.length pc] 25)).grown hg2 (by omega)
  have hgp : ∀ q, (Value.slice PA ps.length pc).ownBlock = some q → q < w1.heap.size ∧ w.heap.size + 1 ≤ q := fun q hq => ⟨(hp1.1.lt q hq).2, (hp1.1.lt q hq).1⟩
  clear hg2 hz2 hp1 hr1 nb1 bx1 hgw1
  by_cases hx : 0 < x2
  · go_wp2_with fail
    go_loopw [10] (fun t wr => ∃ (k : Nat) (qs : List Pp), k ≤ ps.length ∧ t = .int .i64 k ∧ qs.length = ps.length ∧ wr.ownsRow (w.heap.size + 1) 33 5 (.slice PA ps.length pc) ps.length (qs.flatMap Pp.cells) ∧
        Rd wr rg A m c (K + 250) ∧ w.grownBy wr (some rg) ∧ Box2 wr w.heap.size (.int .i64 0) (.slice none 0 0) ∧ Box2 wr w1.heap.size (.int .i64 z) (.slice PA ps.length pc)) (fun t _ => ps.length - (intOf t).toNat)
    case atStart => exact ⟨0, ps, by omega, rfl, rfl, hp2.1, hr2.more (by omega), hgw2, bx2, nb2⟩
    case round =>
      obtain ⟨k, qs, hk, rfl, hql, hown, hr, hg, bx, nb⟩ := hrel
      clear hr2 hgw2 bx2 nb2 hp2
      have Hql := Lib.hid hql
      clear hql
      obtain ⟨ns, n0, n1, n2, n3⟩ := id nb
      by_cases hlt : k < ps.length
      · obtain ⟨gp, cap, hv, hga, hgb⟩ := hown.form (by omega)
        injection hv with hv1 hv2 hv3
        subst hv1
        subst hv3
        have hkq : k < qs.length := by have := Hql.out; omega
        obtain ⟨hgw, ⟨o0, o1, o2, o3, o4⟩, hof⟩ := own_cells5 (k := k) hown hkq
        have hgp' := (hgp gp rfl).1
        have hne1 : gp ≠ w1.heap.size := by omega
        have hof2 := hof (k * 5 + 2)
        go_upto_region 6 with fail
        go_region_held3 (fun w' => w'.cell? ⟨w1.heap.size, 1, none⟩ = some (.slice (some ⟨gp, 0, none⟩) ps.length pc) ∧ w'.cell? ⟨gp, k * 5 + 3, none⟩ = some (.int .i64 qs[k].mo))
          (first | exact ⟨cell_drew n1, cell_drew o3⟩ | exact ⟨(World.cell?_setCell_other _ _ _ _ (by intro h; injection h with h1 h2; omega)).trans (cell_drew n1), (World.cell?_setCell_other _ _ _ _ (by intro h; injection h with h1 h2; omega)).trans (cell_drew o3)⟩)
          (fail)
        have hset : ∀ x : Int, (wr.setCell ⟨gp, k * 5 + 2, none⟩ (.int .i64 x)).ownsRow (w.heap.size + 1) 33 5 (.slice (some ⟨gp, 0, none⟩) ps.length pc) ps.length ((qs.set k ⟨qs[k].fr, qs[k].to, x, qs[k].mo, qs[k].co⟩).flatMap Pp.cells) := fun x => by
          have hh := (hown.stored (k * 5 + 2) (.int .i64 x)).1
          rw [set2_list qs k hkq x] at hh
          exact hh
        have Hset := Lib.hid hset
        clear hset
        all_goals
          go_wp2
          go_roundw
          case rel => exact ⟨k + 1, qs.set k ⟨qs[k].fr, qs[k].to, (if qs[k].mo < 0 then qs[k].mo else 0), qs[k].mo, qs[k].co⟩, by omega, by go_num, by simp; exact Hql.out, Hset.out _, (hr.set (by simp; omega) _).drew, grow_drew (grow_set hg (.inl (by simp; omega)) _), bx.far (by simp; omega) _, nb.far (by simp; omega) _⟩
          case measure => simp [intOf]; omega
      · obtain ⟨bs, b0, b1, b2, b3⟩ := id bx
        have hP : Pipes wr (w.heap.size + 1) (.slice PA ps.length pc) qs := ⟨by rw [Hql.out]; exact hown, by rw [Hql.out]; exact hsm⟩
        go_wp2
        refine bodyPost_ret (v := .tuple #[.agg #[.int .i64 z, .slice PA ps.length pc], .int .i64 i, .int .i64 j]) (by simp [results, Try.results44, go_sem, b0, b1]) rfl ⟨z, qs, _, i, j, rfl, ?_, ?_, ?_, by rw [Hql.out]; exact hl8, hzl, hzh⟩
        · refine Pipes.mono (b := w.heap.size + 1) ?_ (by omega)
          (repeat (first | (with_reducible assumption) | ((with_reducible refine Pipes.setLow ?_ ?hsz); (case hsz => (first | omega | (simp; done) | (simp; omega) | (simp at *; omega)))) | (with_reducible refine Pipes.alloc' ?_ _) | (with_reducible refine Pipes.drew' ?_) | (with_reducible refine Pipes.drewN' ?_ _) | ((with_reducible refine Pipes.keep ?_ (by with_reducible assumption)))))
        · refine Rd.more (K := K + 250) ?_ (by omega)
          (repeat (first | (with_reducible assumption) | ((with_reducible refine Rd.set ?_ ?hsz _); (case hsz => (first | omega | (simp; done) | (simp; omega) | (simp at *; omega)))) | (with_reducible refine Rd.alloc' ?_ _) | (with_reducible refine Rd.drew ?_) | (with_reducible refine Rd.drewN ?_ _) | ((with_reducible refine Rd.keep ?_ (by with_reducible assumption)))))
        · exact grow_set (grow_set hg (.inl (Nat.le_refl _)) _) (.inl (Nat.le_refl _)) _
  · obtain ⟨ns, n0, n1, n2, n3⟩ := id nb2
    obtain ⟨bs, b0, b1, b2, b3⟩ := id bx2
    replace hr2 := hr2.more (K' := K + 250) (by omega)
    go_wp2
    refine bodyPost_ret (v := .tuple #[.agg #[.int .i64 z, .slice PA ps.length pc], .int .i64 i, .int .i64 j]) (by simp [results, Try.results44, go_sem, b0, b1]) rfl ⟨z, ps, _, i, j, rfl, ?_, ?_, ?_, hl8, hzl, hzh⟩
    · refine Pipes.mono (b := w.heap.size + 1) ?_ (by omega)
      (repeat (first | (with_reducible assumption) | ((with_reducible refine Pipes.setLow ?_ ?hsz); (case hsz => (first | omega | (simp; done) | (simp; omega) | (simp at *; omega)))) | (with_reducible refine Pipes.alloc' ?_ _) | (with_reducible refine Pipes.drew' ?_) | (with_reducible refine Pipes.drewN' ?_ _) | ((with_reducible refine Pipes.keep ?_ (by with_reducible assumption)))))
    · refine Rd.more (K := K + 250) ?_ (by omega)
      (repeat (first | (with_reducible assumption) | ((with_reducible refine Rd.set ?_ ?hsz _); (case hsz => (first | omega | (simp; done) | (simp; omega) | (simp at *; omega)))) | (with_reducible refine Rd.alloc' ?_ _) | (with_reducible refine Rd.drew ?_) | (with_reducible refine Rd.drewN ?_ _) | ((with_reducible refine Rd.keep ?_ (by with_reducible assumption)))))
    · exact grow_set (grow_set hgw2 (.inl (Nat.le_refl _)) _) (.inl (Nat.le_refl _)) _

end Go.Proofs.Ytphbmlephldaaaa

/- Contracts of the laws' draws: a net and two nodes, a net whose pipes are often all free; what the pipes hold is small. -/
namespace Go.Proofs.Ytphbmlephldaaaa
open Go.RowKit

/-- what l20Ends leaves, and l20Free -/
def EndedB (w : World) (rg : Nat) (A : Option Addr) (m c K : Nat) (e : Ending) (w' : World) : Prop :=
  ∃ (z : Int) (ps : List Pp) (v : Value) (i j : Int), e = .returned (.tuple #[.agg #[.int .i64 z, v], .int .i64 i, .int .i64 j]) ∧ Pipes w' w.heap.size v ps ∧ Rd w' rg A m c K ∧ w.grownBy w' (some rg) ∧ ps.length ≤ 8 ∧ 1 ≤ z ∧ z ≤ 6 ∧ 0 ≤ i ∧ 0 ≤ j ∧ (2 ≤ z → i < z) ∧ BdL ps

theorem BdL.least {qs : List Pp} {k : Nat} (h : BdL qs) (hk : k < qs.length) : BdL (qs.set k ⟨qs[k].fr, qs[k].to, (if qs[k].mo < 0 then qs[k].mo else 0), qs[k].mo, qs[k].co⟩) := fun p hp => by
  rcases List.mem_or_eq_of_mem_set hp with hp | rfl
  · exact h p hp
  · have := h _ (List.getElem_mem hk)
    unfold bdP at *
    simp only
    split <;> omega

set_option maxHeartbeats 4000000 in
set_option maxRecDepth 20000 in
theorem l20EndsB_any (n : Int) (rg m c K : Nat) (A : Option Addr) (w : World) (h : Rd w rg A m c K) (hK : K ≤ 45000) (h1 : 1 ≤ n) (h2 : n ≤ 1000) :
    Calls Try.prog 92 #[.pointer (some ⟨rg, 0, none⟩), .int .i64 n] w (EndedB w rg A m c (K + 200)) := by
  have hrg := h.1
  go_enter Try.func92, Try.ntmps92
  go_wp2_with fail
  refine (l20Net_bd n rg m c K A _ (h.keep (by (repeat (first | (with_reducible assumption) | (with_reducible exact Below.refl _ _) | ((with_reducible refine Below.alloc ?_ ?hsz _); (case hsz => (first | omega | (simp; done) | (simp; omega) | (simp at *; omega)))) | ((with_reducible refine Below.setCell ?_ ?hsz _); (case hsz => (first | omega | (simp; done) | (simp; omega) | (simp at *; omega)))) | (with_reducible refine Below.drew ?_) | (with_reducible refine below_drewN ?_ _) | ((with_reducible refine Below.trans ?_ (Below.mono (by with_reducible assumption) ?hsz)); (case hsz => (first | omega | (simp; done) | (simp; omega) | (simp at *; omega)))))))) (by omega) h1 h2).mono ?_
  rintro e w1 ⟨z, ps, v, rfl, hp1, hr1, hg1, hl8, hzl, hzh, hbd⟩
  rw [World.size_alloc] at hp1
  have bx1 : Box2 w1 w.heap.size (.int .i64 0) (.slice none 0 0) := (Box2.new w _ _ 25).grown hg1 (by simp; omega)
  have hs1 := hg1.size
  rw [World.size_alloc] at hs1
  have hgw1 : w.grownBy w1 (some rg) := grow_more (grow_alloc (grow_refl w _) _) hg1 (fun q hq => .inr hq)
  obtain ⟨PA, pc, rfl, hc1, hc2, hsm, -⟩ := hp1.form
  unfold maxLen at hc2
  have nb1 : Box2 (w1.alloc (.cells #[.int .i64 z, .slice PA ps.length pc] 25)) w1.heap.size (.int .i64 z) (.slice PA ps.length pc) := Box2.new _ _ _ _
  clear hg1
  have hz16 : z = 1 ∨ z = 2 ∨ z = 3 ∨ z = 4 ∨ z = 5 ∨ z = 6 := by omega
  rcases hz16 with rfl | rfl | rfl | rfl | rfl | rfl
  · go_wp2_with fail
    refine (pick_any 2 rg m c _ A _ (hr1.alloc' _) (by omega) (by omega) (by omega)).mono ?_
    rintro e w2 ⟨x2, rfl, x20, x21, hr2, hg2, hz2⟩
    have nb2 := nb1.grown hg2 (by simp; omega)
    have bx2 := (bx1.keep ((Below.refl _ _).alloc (Nat.le_refl _) _)).grown hg2 (by simp; omega)
    have hgw2 : w.grownBy w2 (some rg) := grow_more (grow_alloc hgw1 _) hg2 (fun q hq => .inr hq)
    have hp2 := (hp1.alloc' (.cells #[.int .i64 1, .slice PA ps.length pc] 25)).grown hg2 (by omega)
    clear hg2 hz2
    obtain ⟨ns, n0, n1, n2, n3⟩ := id nb2
    go_wp2_with fail
    have hr2a : Rd w2.drew rg A m c (K + 101) := (hr2.more (by omega)).drew
    have hs2 := hgw2.size
    have hr2z := hr2.1
    have hz21 : w1.heap.size ≠ rg := by omega
    have hz22 : w1.heap.size ≠ w.heap.size := by omega
    have hz23 : w.heap.size ≠ rg := by omega
    have hz24 : some w.heap.size ≠ some rg := by intro hh; injection hh with hh; omega
    have bx2d : Box2 w2.drew w.heap.size (.int .i64 0) (.slice none 0 0) := bx2
    go_region_held3 (fun w' => w'.cell? ⟨w1.heap.size, 0, none⟩ = some (.int .i64 1) ∧ w'.cell? ⟨w1.heap.size, 1, none⟩ = some (.slice PA ps.length pc))
      ((go_split_ands; (refine ⟨?_, ?_⟩ <;> first | (with_reducible assumption) | (with_reducible refine cell_drew ?_; with_reducible assumption) | (refine cell_grow ?_ (by with_reducible assumption) hz21; with_reducible assumption) | ((repeat (first | (with_reducible assumption) | ((with_reducible refine (Below.cell (by with_reducible assumption) ?hsz).trans ?_); (case hsz => (first | omega | (simp; done) | (simp; omega) | (simp at *; omega)))) | ((with_reducible refine (World.cell?_alloc_lt _ _ _ ?hsz).trans ?_); (case hsz => (first | omega | (simp; done) | (simp; omega) | (simp at *; omega)))) | ((with_reducible refine (World.cell?_setCell_other _ _ _ _ ?hsz).trans ?_); (case hsz => (intro h; injection h with h1 h2; omega))))); done))))
      (first
        | (go_at_call 61; (with_reducible refine (pick_any _ rg m c _ A _ hr4a (by omega) (by first | decide | omega) (by first | decide | omega)).mono ?_); rintro e w5 ⟨x5, rfl, x50, x51, hr5a, hg5, hz5⟩; have bx5 := bx4.grown hg5 hz24; obtain ⟨bs5, e0, e1, e2, e3⟩ := id bx5)
        | (go_at_call 61; (with_reducible refine (pick_any _ rg m c _ A _ hr3a (by omega) (by first | decide | omega) (by first | decide | omega)).mono ?_); rintro e w4 ⟨x4, rfl, x40, x41, hr4a, hg4, hz4⟩; have bx4 := bx3.grown hg4 hz24)
        | (go_at_call 61; (with_reducible refine (pick_any _ rg m c _ A _ hr2a (by omega) (by first | decide | omega | (split <;> omega)) (by first | decide | omega | (split <;> omega))).mono ?_); rintro e w3 ⟨x3, rfl, x30, x31, hr3a, hg3, hz3⟩; have bx3 := bx2d.grown hg3 hz24))
    have hg25 : w2.grownBy w5 (some rg) := grow_more (grow_more (grow_more (grow_drew (grow_refl w2 _)) hg3 (fun q hq => .inr hq)) hg4 (fun q hq => .inr hq)) hg5 (fun q hq => .inr hq)
    have hp5 := hp2.grown hg25 (by omega)
    have hgw5 := grow_more hgw2 hg25 (fun q hq => .inr hq)
    clear hg25 n0 n1 n2 n3
    have hiv0 : 0 ≤ IntKind.i64.wrap (IntKind.i64.wrap ((IntKind.i64.wrap (IntKind.i64.wrap (x2 + 1) + x3)).tmod 2 * IntKind.i64.wrap (1 - IntKind.i64.wrap (x4.tdiv 29))) + IntKind.i64.wrap (x2 * IntKind.i64.wrap (x5.tdiv 29))) := ends_iv (by omega) (by omega) (by omega) (by omega) (by omega) (by first | omega | (have hx3 := x31; (try simp only [IntKind.wrap_i64] at hx3); omega)) (by omega) (by omega) (by omega) (by omega)
    obtain ⟨iv, hiv⟩ : ∃ iv : Int, iv = IntKind.i64.wrap (IntKind.i64.wrap ((IntKind.i64.wrap (IntKind.i64.wrap (x2 + 1) + x3)).tmod 2 * IntKind.i64.wrap (1 - IntKind.i64.wrap (x4.tdiv 29))) + IntKind.i64.wrap (x2 * IntKind.i64.wrap (x5.tdiv 29))) := ⟨_, rfl⟩
    rw [← hiv] at hiv0 ⊢
    clear hiv
    replace hr5a := hr5a.more (K' := K + 200) (by omega)
    go_wp2
    refine bodyPost_ret (v := .tuple #[.agg #[.int .i64 1, .slice PA ps.length pc], .int .i64 x2, .int .i64 iv]) (by simp [results, Try.results92, go_sem, e0, e1]) rfl ⟨_, ps, _, x2, iv, rfl, ?_, ?_, ?_, hl8, hzl, hzh, by omega, hiv0, fun _ => by omega, hbd⟩
    · refine Pipes.mono (b := w.heap.size + 1) ?_ (by omega)
      (repeat (first | (with_reducible assumption) | ((with_reducible refine Pipes.setLow ?_ ?hsz); (case hsz => (first | omega | (simp; done) | (simp; omega) | (simp at *; omega)))) | (with_reducible refine Pipes.alloc' ?_ _) | (with_reducible refine Pipes.drew' ?_) | (with_reducible refine Pipes.drewN' ?_ _) | ((with_reducible refine Pipes.keep ?_ (by with_reducible assumption)))))
    · (repeat (first | (with_reducible assumption) | ((with_reducible refine Rd.set ?_ ?hsz _); (case hsz => (first | omega | (simp; done) | (simp; omega) | (simp at *; omega)))) | (with_reducible refine Rd.alloc' ?_ _) | (with_reducible refine Rd.drew ?_) | (with_reducible refine Rd.drewN ?_ _) | ((with_reducible refine Rd.keep ?_ (by with_reducible assumption)))))
    · exact grow_set (grow_set hgw5 (.inl (Nat.le_refl _)) _) (.inl (Nat.le_refl _)) _
  · go_wp2_with fail
    refine (pick_any 2 rg m c _ A _ (hr1.alloc' _) (by omega) (by omega) (by omega)).mono ?_
    rintro e w2 ⟨x2, rfl, x20, x21, hr2, hg2, hz2⟩
    have nb2 := nb1.grown hg2 (by simp; omega)
    have bx2 := (bx1.keep ((Below.refl _ _).alloc (Nat.le_refl _) _)).grown hg2 (by simp; omega)
    have hgw2 : w.grownBy w2 (some rg) := grow_more (grow_alloc hgw1 _) hg2 (fun q hq => .inr hq)
    have hp2 := (hp1.alloc' (.cells #[.int .i64 2, .slice PA ps.length pc] 25)).grown hg2 (by omega)
    clear hg2 hz2
    obtain ⟨ns, n0, n1, n2, n3⟩ := id nb2
    go_wp2_with fail
    have hr2a : Rd w2.drew rg A m c (K + 101) := (hr2.more (by omega)).drew
    have hs2 := hgw2.size
    have hr2z := hr2.1
    have hz21 : w1.heap.size ≠ rg := by omega
    have hz22 : w1.heap.size ≠ w.heap.size := by omega
    have hz23 : w.heap.size ≠ rg := by omega
    have hz24 : some w.heap.size ≠ some rg := by intro hh; injection hh with hh; omega
    have bx2d : Box2 w2.drew w.heap.size (.int .i64 0) (.slice none 0 0) := bx2
    go_region_held3 (fun w' => w'.cell? ⟨w1.heap.size, 0, none⟩ = some (.int .i64 2) ∧ w'.cell? ⟨w1.heap.size, 1, none⟩ = some (.slice PA ps.length pc))
      ((go_split_ands; (refine ⟨?_, ?_⟩ <;> first | (with_reducible assumption) | (with_reducible refine cell_drew ?_; with_reducible assumption) | (refine cell_grow ?_ (by with_reducible assumption) hz21; with_reducible assumption) | ((repeat (first | (with_reducible assumption) | ((with_reducible refine (Below.cell (by with_reducible assumption) ?hsz).trans ?_); (case hsz => (first | omega | (simp; done) | (simp; omega) | (simp at *; omega)))) | ((with_reducible refine (World.cell?_alloc_lt _ _ _ ?hsz).trans ?_); (case hsz => (first | omega | (simp; done) | (simp; omega) | (simp at *; omega)))) | ((with_reducible refine (World.cell?_setCell_other _ _ _ _ ?hsz).trans ?_); (case hsz => (intro h; injection h with h1 h2; omega))))); done))))
      (first
        | (go_at_call 61; (with_reducible refine (pick_any _ rg m c _ A _ hr4a (by omega) (by first | decide | omega) (by first | decide | omega)).mono ?_); rintro e w5 ⟨x5, rfl, x50, x51, hr5a, hg5, hz5⟩; have bx5 := bx4.grown hg5 hz24; obtain ⟨bs5, e0, e1, e2, e3⟩ := id bx5)
        | (go_at_call 61; (with_reducible refine (pick_any _ rg m c _ A _ hr3a (by omega) (by first | decide | omega) (by first | decide | omega)).mono ?_); rintro e w4 ⟨x4, rfl, x40, x41, hr4a, hg4, hz4⟩; have bx4 := bx3.grown hg4 hz24)
        | (go_at_call 61; (with_reducible refine (pick_any _ rg m c _ A _ hr2a (by omega) (by first | decide | omega | (split <;> omega)) (by first | decide | omega | (split <;> omega))).mono ?_); rintro e w3 ⟨x3, rfl, x30, x31, hr3a, hg3, hz3⟩; have bx3 := bx2d.grown hg3 hz24))
    have hg25 : w2.grownBy w5 (some rg) := grow_more (grow_more (grow_more (grow_drew (grow_refl w2 _)) hg3 (fun q hq => .inr hq)) hg4 (fun q hq => .inr hq)) hg5 (fun q hq => .inr hq)
    have hp5 := hp2.grown hg25 (by omega)
    have hgw5 := grow_more hgw2 hg25 (fun q hq => .inr hq)
    clear hg25 n0 n1 n2 n3
    have hiv0 : 0 ≤ IntKind.i64.wrap (IntKind.i64.wrap ((IntKind.i64.wrap (IntKind.i64.wrap (x2 + 1) + x3)).tmod 2 * IntKind.i64.wrap (1 - IntKind.i64.wrap (x4.tdiv 29))) + IntKind.i64.wrap (x2 * IntKind.i64.wrap (x5.tdiv 29))) := ends_iv (by omega) (by omega) (by omega) (by omega) (by omega) (by first | omega | (have hx3 := x31; (try simp only [IntKind.wrap_i64] at hx3); omega)) (by omega) (by omega) (by omega) (by omega)
    obtain ⟨iv, hiv⟩ : ∃ iv : Int, iv = IntKind.i64.wrap (IntKind.i64.wrap ((IntKind.i64.wrap (IntKind.i64.wrap (x2 + 1) + x3)).tmod 2 * IntKind.i64.wrap (1 - IntKind.i64.wrap (x4.tdiv 29))) + IntKind.i64.wrap (x2 * IntKind.i64.wrap (x5.tdiv 29))) := ⟨_, rfl⟩
    rw [← hiv] at hiv0 ⊢
    clear hiv
    replace hr5a := hr5a.more (K' := K + 200) (by omega)
    go_wp2
    refine bodyPost_ret (v := .tuple #[.agg #[.int .i64 2, .slice PA ps.length pc], .int .i64 x2, .int .i64 iv]) (by simp [results, Try.results92, go_sem, e0, e1]) rfl ⟨_, ps, _, x2, iv, rfl, ?_, ?_, ?_, hl8, hzl, hzh, by omega, hiv0, fun _ => by omega, hbd⟩
    · refine Pipes.mono (b := w.heap.size + 1) ?_ (by omega)
      (repeat (first | (with_reducible assumption) | ((with_reducible refine Pipes.setLow ?_ ?hsz); (case hsz => (first | omega | (simp; done) | (simp; omega) | (simp at *; omega)))) | (with_reducible refine Pipes.alloc' ?_ _) | (with_reducible refine Pipes.drew' ?_) | (with_reducible refine Pipes.drewN' ?_ _) | ((with_reducible refine Pipes.keep ?_ (by with_reducible assumption)))))
    · (repeat (first | (with_reducible assumption) | ((with_reducible refine Rd.set ?_ ?hsz _); (case hsz => (first | omega | (simp; done) | (simp; omega) | (simp at *; omega)))) | (with_reducible refine Rd.alloc' ?_ _) | (with_reducible refine Rd.drew ?_) | (with_reducible refine Rd.drewN ?_ _) | ((with_reducible refine Rd.keep ?_ (by with_reducible assumption)))))
    · exact grow_set (grow_set hgw5 (.inl (Nat.le_refl _)) _) (.inl (Nat.le_refl _)) _
  · go_wp2_with fail
    refine (pick_any 3 rg m c _ A _ (hr1.alloc' _) (by omega) (by omega) (by omega)).mono ?_
    rintro e w2 ⟨x2, rfl, x20, x21, hr2, hg2, hz2⟩
    have nb2 := nb1.grown hg2 (by simp; omega)
    have bx2 := (bx1.keep ((Below.refl _ _).alloc (Nat.le_refl _) _)).grown hg2 (by simp; omega)
    have hgw2 : w.grownBy w2 (some rg) := grow_more (grow_alloc hgw1 _) hg2 (fun q hq => .inr hq)
    have hp2 := (hp1.alloc' (.cells #[.int .i64 3, .slice PA ps.length pc] 25)).grown hg2 (by omega)
    clear hg2 hz2
    obtain ⟨ns, n0, n1, n2, n3⟩ := id nb2
    go_wp2_with fail
    have hr2a : Rd w2.drew rg A m c (K + 101) := (hr2.more (by omega)).drew
    have hs2 := hgw2.size
    have hr2z := hr2.1
    have hz21 : w1.heap.size ≠ rg := by omega
    have hz22 : w1.heap.size ≠ w.heap.size := by omega
    have hz23 : w.heap.size ≠ rg := by omega
    have hz24 : some w.heap.size ≠ some rg := by intro hh; injection hh with hh; omega
    have bx2d : Box2 w2.drew w.heap.size (.int .i64 0) (.slice none 0 0) := bx2
    go_region_held3 (fun w' => w'.cell? ⟨w1.heap.size, 0, none⟩ = some (.int .i64 3) ∧ w'.cell? ⟨w1.heap.size, 1, none⟩ = some (.slice PA ps.length pc))
      ((go_split_ands; (refine ⟨?_, ?_⟩ <;> first | (with_reducible assumption) | (with_reducible refine cell_drew ?_; with_reducible assumption) | (refine cell_grow ?_ (by with_reducible assumption) hz21; with_reducible assumption) | ((repeat (first | (with_reducible assumption) | ((with_reducible refine (Below.cell (by with_reducible assumption) ?hsz).trans ?_); (case hsz => (first | omega | (simp; done) | (simp; omega) | (simp at *; omega)))) | ((with_reducible refine (World.cell?_alloc_lt _ _ _ ?hsz).trans ?_); (case hsz => (first | omega | (simp; done) | (simp; omega) | (simp at *; omega)))) | ((with_reducible refine (World.cell?_setCell_other _ _ _ _ ?hsz).trans ?_); (case hsz => (intro h; injection h with h1 h2; omega))))); done))))
      (first
        | (go_at_call 61; (with_reducible refine (pick_any _ rg m c _ A _ hr4a (by omega) (by first | decide | omega) (by first | decide | omega)).mono ?_); rintro e w5 ⟨x5, rfl, x50, x51, hr5a, hg5, hz5⟩; have bx5 := bx4.grown hg5 hz24; obtain ⟨bs5, e0, e1, e2, e3⟩ := id bx5)
        | (go_at_call 61; (with_reducible refine (pick_any _ rg m c _ A _ hr3a (by omega) (by first | decide | omega) (by first | decide | omega)).mono ?_); rintro e w4 ⟨x4, rfl, x40, x41, hr4a, hg4, hz4⟩; have bx4 := bx3.grown hg4 hz24)
        | (go_at_call 61; (with_reducible refine (pick_any _ rg m c _ A _ hr2a (by omega) (by first | decide | omega | (split <;> omega)) (by first | decide | omega | (split <;> omega))).mono ?_); rintro e w3 ⟨x3, rfl, x30, x31, hr3a, hg3, hz3⟩; have bx3 := bx2d.grown hg3 hz24))
    have hg25 : w2.grownBy w5 (some rg) := grow_more (grow_more (grow_more (grow_drew (grow_refl w2 _)) hg3 (fun q hq => .inr hq)) hg4 (fun q hq => .inr hq)) hg5 (fun q hq => .inr hq)
    have hp5 := hp2.grown hg25 (by omega)
    have hgw5 := grow_more hgw2 hg25 (fun q hq => .inr hq)
    clear hg25 n0 n1 n2 n3
    have hiv0 : 0 ≤ IntKind.i64.wrap (IntKind.i64.wrap ((IntKind.i64.wrap (IntKind.i64.wrap (x2 + 1) + x3)).tmod 3 * IntKind.i64.wrap (1 - IntKind.i64.wrap (x4.tdiv 29))) + IntKind.i64.wrap (x2 * IntKind.i64.wrap (x5.tdiv 29))) := ends_iv (by omega) (by omega) (by omega) (by omega) (by omega) (by first | omega | (have hx3 := x31; (try simp only [IntKind.wrap_i64] at hx3); omega)) (by omega) (by omega) (by omega) (by omega)
    obtain ⟨iv, hiv⟩ : ∃ iv : Int, iv = IntKind.i64.wrap (IntKind.i64.wrap ((IntKind.i64.wrap (IntKind.i64.wrap (x2 + 1) + x3)).tmod 3 * IntKind.i64.wrap (1 - IntKind.i64.wrap (x4.tdiv 29))) + IntKind.i64.wrap (x2 * IntKind.i64.wrap (x5.tdiv 29))) := ⟨_, rfl⟩
    rw [← hiv] at hiv0 ⊢
    clear hiv
    replace hr5a := hr5a.more (K' := K + 200) (by omega)
    go_wp2
    refine bodyPost_ret (v := .tuple #[.agg #[.int .i64 3, .slice PA ps.length pc], .int .i64 x2, .int .i64 iv]) (by simp [results, Try.results92, go_sem, e0, e1]) rfl ⟨_, ps, _, x2, iv, rfl, ?_, ?_, ?_, hl8, hzl, hzh, by omega, hiv0, fun _ => by omega, hbd⟩
    · refine Pipes.mono (b := w.heap.size + 1) ?_ (by omega)
      (repeat (first | (with_reducible assumption) | ((with_reducible refine Pipes.setLow ?_ ?hsz); (case hsz => (first | omega | (simp; done) | (simp; omega) | (simp at *; omega)))) | (with_reducible refine Pipes.alloc' ?_ _) | (with_reducible refine Pipes.drew' ?_) | (with_reducible refine Pipes.drewN' ?_ _) | ((with_reducible refine Pipes.keep ?_ (by with_reducible assumption)))))
    · (repeat (first | (with_reducible assumption) | ((with_reducible refine Rd.set ?_ ?hsz _); (case hsz => (first | omega | (simp; done) | (simp; omega) | (simp at *; omega)))) | (with_reducible refine Rd.alloc' ?_ _) | (with_reducible refine Rd.drew ?_) | (with_reducible refine Rd.drewN ?_ _) | ((with_reducible refine Rd.keep ?_ (by with_reducible assumption)))))
    · exact grow_set (grow_set hgw5 (.inl (Nat.le_refl _)) _) (.inl (Nat.le_refl _)) _
  · go_wp2_with fail
    refine (pick_any 4 rg m c _ A _ (hr1.alloc' _) (by omega) (by omega) (by omega)).mono ?_
    rintro e w2 ⟨x2, rfl, x20, x21, hr2, hg2, hz2⟩
    have nb2 := nb1.grown hg2 (by simp; omega)
    have bx2 := (bx1.keep ((Below.refl _ _).alloc (Nat.le_refl _) _)).grown hg2 (by simp; omega)
    have hgw2 : w.grownBy w2 (some rg) := grow_more (grow_alloc hgw1 _) hg2 (fun q hq => .inr hq)
    have hp2 := (hp1.alloc' (.cells #[.int .i64 4, .slice PA ps.length pc] 25)).grown hg2 (by omega)
    clear hg2 hz2
    obtain ⟨ns, n0, n1, n2, n3⟩ := id nb2
    go_wp2_with fail
    have hr2a : Rd w2.drew rg A m c (K + 101) := (hr2.more (by omega)).drew
    have hs2 := hgw2.size
    have hr2z := hr2.1
    have hz21 : w1.heap.size ≠ rg := by omega
    have hz22 : w1.heap.size ≠ w.heap.size := by omega
    have hz23 : w.heap.size ≠ rg := by omega
    have hz24 : some w.heap.size ≠ some rg := by intro hh; injection hh with hh; omega
    have bx2d : Box2 w2.drew w.heap.size (.int .i64 0) (.slice none 0 0) := bx2
    go_region_held3 (fun w' => w'.cell? ⟨w1.heap.size, 0, none⟩ = some (.int .i64 4) ∧ w'.cell? ⟨w1.heap.size, 1, none⟩ = some (.slice PA ps.length pc))
      ((go_split_ands; (refine ⟨?_, ?_⟩ <;> first | (with_reducible assumption) | (with_reducible refine cell_drew ?_; with_reducible assumption) | (refine cell_grow ?_ (by with_reducible assumption) hz21; with_reducible assumption) | ((repeat (first | (with_reducible assumption) | ((with_reducible refine (Below.cell (by with_reducible assumption) ?hsz).trans ?_); (case hsz => (first | omega | (simp; done) | (simp; omega) | (simp at *; omega)))) | ((with_reducible refine (World.cell?_alloc_lt _ _ _ ?hsz).trans ?_); (case hsz => (first | omega | (simp; done) | (simp; omega) | (simp at *; omega)))) | ((with_reducible refine (World.cell?_setCell_other _ _ _ _ ?hsz).trans ?_); (case hsz => (intro h; injection h with h1 h2; omega))))); done))))
      (first
        | (go_at_call 61; (with_reducible refine (pick_any _ rg m c _ A _ hr4a (by omega) (by first | decide | omega) (by first | decide | omega)).mono ?_); rintro e w5 ⟨x5, rfl, x50, x51, hr5a, hg5, hz5⟩; have bx5 := bx4.grown hg5 hz24; obtain ⟨bs5, e0, e1, e2, e3⟩ := id bx5)
        | (go_at_call 61; (with_reducible refine (pick_any _ rg m c _ A _ hr3a (by omega) (by first | decide | omega) (by first | decide | omega)).mono ?_); rintro e w4 ⟨x4, rfl, x40, x41, hr4a, hg4, hz4⟩; have bx4 := bx3.grown hg4 hz24)
        | (go_at_call 61; (with_reducible refine (pick_any _ rg m c _ A _ hr2a (by omega) (by first | decide | omega | (split <;> omega)) (by first | decide | omega | (split <;> omega))).mono ?_); rintro e w3 ⟨x3, rfl, x30, x31, hr3a, hg3, hz3⟩; have bx3 := bx2d.grown hg3 hz24))
    have hg25 : w2.grownBy w5 (some rg) := grow_more (grow_more (grow_more (grow_drew (grow_refl w2 _)) hg3 (fun q hq => .inr hq)) hg4 (fun q hq => .inr hq)) hg5 (fun q hq => .inr hq)
    have hp5 := hp2.grown hg25 (by omega)
    have hgw5 := grow_more hgw2 hg25 (fun q hq => .inr hq)
    clear hg25 n0 n1 n2 n3
    have hiv0 : 0 ≤ IntKind.i64.wrap (IntKind.i64.wrap ((IntKind.i64.wrap (IntKind.i64.wrap (x2 + 1) + x3)).tmod 4 * IntKind.i64.wrap (1 - IntKind.i64.wrap (x4.tdiv 29))) + IntKind.i64.wrap (x2 * IntKind.i64.wrap (x5.tdiv 29))) := ends_iv (by omega) (by omega) (by omega) (by omega) (by omega) (by first | omega | (have hx3 := x31; (try simp only [IntKind.wrap_i64] at hx3); omega)) (by omega) (by omega) (by omega) (by omega)
    obtain ⟨iv, hiv⟩ : ∃ iv : Int, iv = IntKind.i64.wrap (IntKind.i64.wrap ((IntKind.i64.wrap (IntKind.i64.wrap (x2 + 1) + x3)).tmod 4 * IntKind.i64.wrap (1 - IntKind.i64.wrap (x4.tdiv 29))) + IntKind.i64.wrap (x2 * IntKind.i64.wrap (x5.tdiv 29))) := ⟨_, rfl⟩
    rw [← hiv] at hiv0 ⊢
    clear hiv
    replace hr5a := hr5a.more (K' := K + 200) (by omega)
    go_wp2
    refine bodyPost_ret (v := .tuple #[.agg #[.int .i64 4, .slice PA ps.length pc], .int .i64 x2, .int .i64 iv]) (by simp [results, Try.results92, go_sem, e0, e1]) rfl ⟨_, ps, _, x2, iv, rfl, ?_, ?_, ?_, hl8, hzl, hzh, by omega, hiv0, fun _ => by omega, hbd⟩
    · refine Pipes.mono (b := w.heap.size + 1) ?_ (by omega)
      (repeat (first | (with_reducible assumption) | ((with_reducible refine Pipes.setLow ?_ ?hsz); (case hsz => (first | omega | (simp; done) | (simp; omega) | (simp at *; omega)))) | (with_reducible refine Pipes.alloc' ?_ _) | (with_reducible refine Pipes.drew' ?_) | (with_reducible refine Pipes.drewN' ?_ _) | ((with_reducible refine Pipes.keep ?_ (by with_reducible assumption)))))
    · (repeat (first | (with_reducible assumption) | ((with_reducible refine Rd.set ?_ ?hsz _); (case hsz => (first | omega | (simp; done) | (simp; omega) | (simp at *; omega)))) | (with_reducible refine Rd.alloc' ?_ _) | (with_reducible refine Rd.drew ?_) | (with_reducible refine Rd.drewN ?_ _) | ((with_reducible refine Rd.keep ?_ (by with_reducible assumption)))))
    · exact grow_set (grow_set hgw5 (.inl (Nat.le_refl _)) _) (.inl (Nat.le_refl _)) _
  · go_wp2_with fail
    refine (pick_any 5 rg m c _ A _ (hr1.alloc' _) (by omega) (by omega) (by omega)).mono ?_
    rintro e w2 ⟨x2, rfl, x20, x21, hr2, hg2, hz2⟩
    have nb2 := nb1.grown hg2 (by simp; omega)
    have bx2 := (bx1.keep ((Below.refl _ _).alloc (Nat.le_refl _) _)).grown hg2 (by simp; omega)
    have hgw2 : w.grownBy w2 (some rg) := grow_more (grow_alloc hgw1 _) hg2 (fun q hq => .inr hq)
    have hp2 := (hp1.alloc' (.cells #[.int .i64 5, .slice PA ps.length pc] 25)).grown hg2 (by omega)
    clear hg2 hz2
    obtain ⟨ns, n0, n1, n2, n3⟩ := id nb2
    go_wp2_with fail
    have hr2a : Rd w2.drew rg A m c (K + 101) := (hr2.more (by omega)).drew
    have hs2 := hgw2.size
    have hr2z := hr2.1
    have hz21 : w1.heap.size ≠ rg := by omega
    have hz22 : w1.heap.size ≠ w.heap.size := by omega
    have hz23 : w.heap.size ≠ rg := by omega
    have hz24 : some w.heap.size ≠ some rg := by intro hh; injection hh with hh; omega
    have bx2d : Box2 w2.drew w.heap.size (.int .i64 0) (.slice none 0 0) := bx2
    go_region_held3 (fun w' => w'.cell? ⟨w1.heap.size, 0, none⟩ = some (.int .i64 5) ∧ w'.cell? ⟨w1.heap.size, 1, none⟩ = some (.slice PA ps.length pc))
      ((go_split_ands; (refine ⟨?_, ?_⟩ <;> first | (with_reducible assumption) | (with_reducible refine cell_drew ?_; with_reducible assumption) | (refine cell_grow ?_ (by with_reducible assumption) hz21; with_reducible assumption) | ((repeat (first | (with_reducible assumption) | ((with_reducible refine (Below.cell (by with_reducible assumption) ?hsz).trans ?_); (case hsz => (first | omega | (simp; done) | (simp; omega) | (simp at *; omega)))) | ((with_reducible refine (World.cell?_alloc_lt _ _ _ ?hsz).trans ?_); (case hsz => (first | omega | (simp; done) | (simp; omega) | (simp at *; omega)))) | ((with_reducible refine (World.cell?_setCell_other _ _ _ _ ?hsz).trans ?_); (case hsz => (intro h; injection h with h1 h2; omega))))); done))))
      (first
        | (go_at_call 61; (with_reducible refine (pick_any _ rg m c _ A _ hr4a (by omega) (by first | decide | omega) (by first | decide | omega)).mono ?_); rintro e w5 ⟨x5, rfl, x50, x51, hr5a, hg5, hz5⟩; have bx5 := bx4.grown hg5 hz24; obtain ⟨bs5, e0, e1, e2, e3⟩ := id bx5)
        | (go_at_call 61; (with_reducible refine (pick_any _ rg m c _ A _ hr3a (by omega) (by first | decide | omega) (by first | decide | omega)).mono ?_); rintro e w4 ⟨x4, rfl, x40, x41, hr4a, hg4, hz4⟩; have bx4 := bx3.grown hg4 hz24)
        | (go_at_call 61; (with_reducible refine (pick_any _ rg m c _ A _ hr2a (by omega) (by first | decide | omega | (split <;> omega)) (by first | decide | omega | (split <;> omega))).mono ?_); rintro e w3 ⟨x3, rfl, x30, x31, hr3a, hg3, hz3⟩; have bx3 := bx2d.grown hg3 hz24))
    have hg25 : w2.grownBy w5 (some rg) := grow_more (grow_more (grow_more (grow_drew (grow_refl w2 _)) hg3 (fun q hq => .inr hq)) hg4 (fun q hq => .inr hq)) hg5 (fun q hq => .inr hq)
    have hp5 := hp2.grown hg25 (by omega)
    have hgw5 := grow_more hgw2 hg25 (fun q hq => .inr hq)
    clear hg25 n0 n1 n2 n3
    have hiv0 : 0 ≤ IntKind.i64.wrap (IntKind.i64.wrap ((IntKind.i64.wrap (IntKind.i64.wrap (x2 + 1) + x3)).tmod 5 * IntKind.i64.wrap (1 - IntKind.i64.wrap (x4.tdiv 29))) + IntKind.i64.wrap (x2 * IntKind.i64.wrap (x5.tdiv 29))) := ends_iv (by omega) (by omega) (by omega) (by omega) (by omega) (by first | omega | (have hx3 := x31; (try simp only [IntKind.wrap_i64] at hx3); omega)) (by omega) (by omega) (by omega) (by omega)
    obtain ⟨iv, hiv⟩ : ∃ iv : Int, iv = IntKind.i64.wrap (IntKind.i64.wrap ((IntKind.i64.wrap (IntKind.i64.wrap (x2 + 1) + x3)).tmod 5 * IntKind.i64.wrap (1 - IntKind.i64.wrap (x4.tdiv 29))) + IntKind.i64.wrap (x2 * IntKind.i64.wrap (x5.tdiv 29))) := ⟨_, rfl⟩
    rw [← hiv] at hiv0 ⊢
    clear hiv
    replace hr5a := hr5a.more (K' := K + 200) (by omega)
    go_wp2
    refine bodyPost_ret (v := .tuple #[.agg #[.int .i64 5, .slice PA ps.length pc], .int .i64 x2, .int .i64 iv]) (by simp [results, Try.results92, go_sem, e0, e1]) rfl ⟨_, ps, _, x2, iv, rfl, ?_, ?_, ?_, hl8, hzl, hzh, by omega, hiv0, fun _ => by omega, hbd⟩
    · refine Pipes.mono (b := w.heap.size + 1) ?_ (by omega)
      (repeat (first | (with_reducible assumption) | ((with_reducible refine Pipes.setLow ?_ ?hsz); (case hsz => (first | omega | (simp; done) | (simp; omega) | (simp at *; omega)))) | (with_reducible refine Pipes.alloc' ?_ _) | (with_reducible refine Pipes.drew' ?_) | (with_reducible refine Pipes.drewN' ?_ _) | ((with_reducible refine Pipes.keep ?_ (by with_reducible assumption)))))
    · (repeat (first | (with_reducible assumption) | ((with_reducible refine Rd.set ?_ ?hsz _); (case hsz => (first | omega | (simp; done) | (simp; omega) | (simp at *; omega)))) | (with_reducible refine Rd.alloc' ?_ _) | (with_reducible refine Rd.drew ?_) | (with_reducible refine Rd.drewN ?_ _) | ((with_reducible refine Rd.keep ?_ (by with_reducible assumption)))))
    · exact grow_set (grow_set hgw5 (.inl (Nat.le_refl _)) _) (.inl (Nat.le_refl _)) _
  · go_wp2_with fail
    refine (pick_any 6 rg m c _ A _ (hr1.alloc' _) (by omega) (by omega) (by omega)).mono ?_
    rintro e w2 ⟨x2, rfl, x20, x21, hr2, hg2, hz2⟩
    have nb2 := nb1.grown hg2 (by simp; omega)
    have bx2 := (bx1.keep ((Below.refl _ _).alloc (Nat.le_refl _) _)).grown hg2 (by simp; omega)
    have hgw2 : w.grownBy w2 (some rg) := grow_more (grow_alloc hgw1 _) hg2 (fun q hq => .inr hq)
    have hp2 := (hp1.alloc' (.cells #[.int .i64 6, .slice PA ps.length pc] 25)).grown hg2 (by omega)
    clear hg2 hz2
    obtain ⟨ns, n0, n1, n2, n3⟩ := id nb2
    go_wp2_with fail
    have hr2a : Rd w2.drew rg A m c (K + 101) := (hr2.more (by omega)).drew
    have hs2 := hgw2.size
    have hr2z := hr2.1
    have hz21 : w1.heap.size ≠ rg := by omega
    have hz22 : w1.heap.size ≠ w.heap.size := by omega
    have hz23 : w.heap.size ≠ rg := by omega
    have hz24 : some w.heap.size ≠ some rg := by intro hh; injection hh with hh; omega
    have bx2d : Box2 w2.drew w.heap.size (.int .i64 0) (.slice none 0 0) := bx2
    go_region_held3 (fun w' => w'.cell? ⟨w1.heap.size, 0, none⟩ = some (.int .i64 6) ∧ w'.cell? ⟨w1.heap.size, 1, none⟩ = some (.slice PA ps.length pc))
      ((go_split_ands; (refine ⟨?_, ?_⟩ <;> first | (with_reducible assumption) | (with_reducible refine cell_drew ?_; with_reducible assumption) | (refine cell_grow ?_ (by with_reducible assumption) hz21; with_reducible assumption) | ((repeat (first | (with_reducible assumption) | ((with_reducible refine (Below.cell (by with_reducible assumption) ?hsz).trans ?_); (case hsz => (first | omega | (simp; done) | (simp; omega) | (simp at *; omega)))) | ((with_reducible refine (World.cell?_alloc_lt _ _ _ ?hsz).trans ?_); (case hsz => (first | omega | (simp; done) | (simp; omega) | (simp at *; omega)))) | ((with_reducible refine (World.cell?_setCell_other _ _ _ _ ?hsz).trans ?_); (case hsz => (intro h; injection h with h1 h2; omega))))); done))))
      (first
        | (go_at_call 61; (with_reducible refine (pick_any _ rg m c _ A _ hr4a (by omega) (by first | decide | omega) (by first | decide | omega)).mono ?_); rintro e w5 ⟨x5, rfl, x50, x51, hr5a, hg5, hz5⟩; have bx5 := bx4.grown hg5 hz24; obtain ⟨bs5, e0, e1, e2, e3⟩ := id bx5)
        | (go_at_call 61; (with_reducible refine (pick_any _ rg m c _ A _ hr3a (by omega) (by first | decide | omega) (by first | decide | omega)).mono ?_); rintro e w4 ⟨x4, rfl, x40, x41, hr4a, hg4, hz4⟩; have bx4 := bx3.grown hg4 hz24)
        | (go_at_call 61; (with_reducible refine (pick_any _ rg m c _ A _ hr2a (by omega) (by first | decide | omega | (split <;> omega)) (by first | decide | omega | (split <;> omega))).mono ?_); rintro e w3 ⟨x3, rfl, x30, x31, hr3a, hg3, hz3⟩; have bx3 := bx2d.grown hg3 hz24))
    have hg25 : w2.grownBy w5 (some rg) := grow_more (grow_more (grow_more (grow_drew (grow_refl w2 _)) hg3 (fun q hq => .inr hq)) hg4 (fun q hq => .inr hq)) hg5 (fun q hq => .inr hq)
    have hp5 := hp2.grown hg25 (by omega)
    have hgw5 := grow_more hgw2 hg25 (fun q hq => .inr hq)
    clear hg25 n0 n1 n2 n3
    have hiv0 : 0 ≤ IntKind.i64.wrap (IntKind.i64.wrap ((IntKind.i64.wrap (IntKind.i64.wrap (x2 + 1) + x3)).tmod 6 * IntKind.i64.wrap (1 - IntKind.i64.wrap (x4.tdiv 29))) + IntKind.i64.wrap (x2 * IntKind.i64.wrap (x5.tdiv 29))) := ends_iv (by omega) (by omega) (by omega) (by omega) (by omega) (by first | omega | (have hx3 := x31; (try simp only [IntKind.wrap_i64] at hx3); omega)) (by omega) (by omega) (by omega) (by omega)
    obtain ⟨iv, hiv⟩ : ∃ iv : Int, iv = IntKind.i64.wrap (IntKind.i64.wrap ((IntKind.i64.wrap (IntKind.i64.wrap (x2 + 1) + x3)).tmod 6 * IntKind.i64.wrap (1 - IntKind.i64.wrap (x4.tdiv 29))) + IntKind.i64.wrap (x2 * IntKind.i64.wrap (x5.tdiv 29))) := ⟨_, rfl⟩
    rw [← hiv] at hiv0 ⊢
    clear hiv
    replace hr5a := hr5a.more (K' := K + 200) (by omega)
    go_wp2
    refine bodyPost_ret (v := .tuple #[.agg #[.int .i64 6, .slice PA ps.length pc], .int .i64 x2, .int .i64 iv]) (by simp [results, Try.results92, go_sem, e0, e1]) rfl ⟨_, ps, _, x2, iv, rfl, ?_, ?_, ?_, hl8, hzl, hzh, by omega, hiv0, fun _ => by omega, hbd⟩
    · refine Pipes.mono (b := w.heap.size + 1) ?_ (by omega)
      (repeat (first | (with_reducible assumption) | ((with_reducible refine Pipes.setLow ?_ ?hsz); (case hsz => (first | omega | (simp; done) | (simp; omega) | (simp at *; omega)))) | (with_reducible refine Pipes.alloc' ?_ _) | (with_reducible refine Pipes.drew' ?_) | (with_reducible refine Pipes.drewN' ?_ _) | ((with_reducible refine Pipes.keep ?_ (by with_reducible assumption)))))
    · (repeat (first | (with_reducible assumption) | ((with_reducible refine Rd.set ?_ ?hsz _); (case hsz => (first | omega | (simp; done) | (simp; omega) | (simp at *; omega)))) | (with_reducible refine Rd.alloc' ?_ _) | (with_reducible refine Rd.drew ?_) | (with_reducible refine Rd.drewN ?_ _) | ((with_reducible refine Rd.keep ?_ (by with_reducible assumption)))))
    · exact grow_set (grow_set hgw5 (.inl (Nat.le_refl _)) _) (.inl (Nat.le_refl _)) _

set_option maxRecDepth 20000 in
set_option maxHeartbeats 4000000 in
set_option maxRecDepth 20000 in
theorem l20FreeB_any (n : Int) (rg m c K : Nat) (A : Option Addr) (w : World) (h : Rd w rg A m c K) (hK : K ≤ 40000) (h1 : 1 ≤ n) (h2 : n ≤ 1000) :
    Calls Try.prog 44 #[.pointer (some ⟨rg, 0, none⟩), .int .i64 n] w (EndedB w rg A m c (K + 300)) := by
  have hrg := h.1
  go_enter Try.func44, Try.ntmps44
  go_wp2_with fail
  refine (l20EndsB_any n rg m c K A _ (h.keep (by (repeat (first | (with_reducible assumption) | (with_reducible exact Below.refl _ _) | ((with_reducible refine Below.alloc ?_ ?hsz _); (case hsz => (first | omega | (simp; done) | (simp; omega) | (simp at *; omega)))) | ((with_reducible refine Below.setCell ?_ ?hsz _); (case hsz => (first | omega | (simp; done) | (simp; omega) | (simp at *; omega)))) | (with_reducible refine Below.drew ?_) | (with_reducible refine below_drewN ?_ _) | ((with_reducible refine Below.trans ?_ (Below.mono (by with_reducible assumption) ?hsz)); (case hsz => (first | omega | (simp; done) | (simp; omega) | (simp at *; omega)))))))) (by omega) h1 h2).mono ?_
  rintro e w1 ⟨z, ps, v, i, j, rfl, hp1, hr1, hg1, hl8, hzl, hzh⟩
  rw [World.size_alloc] at hp1
  have bx1 : Box2 w1 w.heap.size (.int .i64 0) (.slice none 0 0) := (Box2.new w _ _ 25).grown hg1 (by simp; omega)
  have hs1 := hg1.size
  rw [World.size_alloc] at hs1
  have hgw1 : w.grownBy w1 (some rg) := grow_more (grow_alloc (grow_refl w _) _) hg1 (fun q hq => .inr hq)
  obtain ⟨PA, pc, rfl, hc1, hc2, hsm, -⟩ := hp1.form
  unfold maxLen at hc2
  have nb1 : Box2 (w1.alloc (.cells #[.int .i64 z, .slice PA ps.length pc] 25)) w1.heap.size (.int .i64 z) (.slice PA ps.length pc) := Box2.new _ _ _ _
  clear hg1
  go_wp2_with fail
  refine (pick_any 9 rg m c _ A _ (hr1.alloc' _) (by omega) (by omega) (by omega)).mono ?_
  rintro e w2 ⟨x2, rfl, x20, x21, hr2, hg2, hz2⟩
  have nb2 := nb1.grown hg2 (by simp; omega)
  have bx2 := (bx1.keep ((Below.refl _ _).alloc (Nat.le_refl _) _)).grown hg2 (by simp; omega)
  have hgw2 : w.grownBy w2 (some rg) := grow_more (grow_alloc hgw1 _) hg2 (fun q hq => .inr hq)
  have hp2 := (hp1.alloc' (.cells #[.int .i64 z, .slice PA ps.length pc] 25)).grown hg2 (by omega)
  have hgp : ∀ q, (Value.slice PA ps.length pc).ownBlock = some q → q < w1.heap.size ∧ w.heap.size + 1 ≤ q := fun q hq => ⟨(hp1.1.lt q hq).2, (hp1.1.lt q hq).1⟩
  clear hg2 hz2 hp1 hr1 nb1 bx1 hgw1
  by_cases hx : 0 < x2
  · go_wp2_with fail
    go_loopw [10] (fun t wr => ∃ (k : Nat) (qs : List Pp), k ≤ ps.length ∧ t = .int .i64 k ∧ qs.length = ps.length ∧ wr.ownsRow (w.heap.size + 1) 33 5 (.slice PA ps.length pc) ps.length (qs.flatMap Pp.cells) ∧
        Rd wr rg A m c (K + 250) ∧ w.grownBy wr (some rg) ∧ Box2 wr w.heap.size (.int .i64 0) (.slice none 0 0) ∧ Box2 wr w1.heap.size (.int .i64 z) (.slice PA ps.length pc) ∧ BdL qs) (fun t _ => ps.length - (intOf t).toNat)
    case atStart => exact ⟨0, ps, by omega, rfl, rfl, hp2.1, hr2.more (by omega), hgw2, bx2, nb2, hzh.2.2.2.2⟩
    case round =>
      obtain ⟨k, qs, hk, rfl, hql, hown, hr, hg, bx, nb, hbq⟩ := hrel
      have HBQ := Lib.hid hbq
      clear hbq
      clear hr2 hgw2 bx2 nb2 hp2
      have Hql := Lib.hid hql
      clear hql
      obtain ⟨ns, n0, n1, n2, n3⟩ := id nb
      by_cases hlt : k < ps.length
      · obtain ⟨gp, cap, hv, hga, hgb⟩ := hown.form (by omega)
        injection hv with hv1 hv2 hv3
        subst hv1
        subst hv3
        have hkq : k < qs.length := by have := Hql.out; omega
        obtain ⟨hgw, ⟨o0, o1, o2, o3, o4⟩, hof⟩ := own_cells5 (k := k) hown hkq
        have hgp' := (hgp gp rfl).1
        have hne1 : gp ≠ w1.heap.size := by omega
        have hof2 := hof (k * 5 + 2)
        go_upto_region 6 with fail
        go_region_held3 (fun w' => w'.cell? ⟨w1.heap.size, 1, none⟩ = some (.slice (some ⟨gp, 0, none⟩) ps.length pc) ∧ w'.cell? ⟨gp, k * 5 + 3, none⟩ = some (.int .i64 qs[k].mo))
          (first | exact ⟨cell_drew n1, cell_drew o3⟩ | exact ⟨(World.cell?_setCell_other _ _ _ _ (by intro h; injection h with h1 h2; omega)).trans (cell_drew n1), (World.cell?_setCell_other _ _ _ _ (by intro h; injection h with h1 h2; omega)).trans (cell_drew o3)⟩)
          (fail)
        have hset : ∀ x : Int, (wr.setCell ⟨gp, k * 5 + 2, none⟩ (.int .i64 x)).ownsRow (w.heap.size + 1) 33 5 (.slice (some ⟨gp, 0, none⟩) ps.length pc) ps.length ((qs.set k ⟨qs[k].fr, qs[k].to, x, qs[k].mo, qs[k].co⟩).flatMap Pp.cells) := fun x => by
          have hh := (hown.stored (k * 5 + 2) (.int .i64 x)).1
          rw [set2_list qs k hkq x] at hh
          exact hh
        have Hset := Lib.hid hset
        clear hset
        all_goals
          go_wp2
          go_roundw
          case rel => exact ⟨k + 1, qs.set k ⟨qs[k].fr, qs[k].to, (if qs[k].mo < 0 then qs[k].mo else 0), qs[k].mo, qs[k].co⟩, by omega, by go_num, by simp; exact Hql.out, Hset.out _, (hr.set (by simp; omega) _).drew, grow_drew (grow_set hg (.inl (by simp; omega)) _), bx.far (by simp; omega) _, nb.far (by simp; omega) _, BdL.least HBQ.out hkq⟩
          case measure => simp [intOf]; omega
      · obtain ⟨bs, b0, b1, b2, b3⟩ := id bx
        have hP : Pipes wr (w.heap.size + 1) (.slice PA ps.length pc) qs := ⟨by rw [Hql.out]; exact hown, by rw [Hql.out]; exact hsm⟩
        go_wp2
        refine bodyPost_ret (v := .tuple #[.agg #[.int .i64 z, .slice PA ps.length pc], .int .i64 i, .int .i64 j]) (by simp [results, Try.results44, go_sem, b0, b1]) rfl ⟨z, qs, _, i, j, rfl, ?_, ?_, ?_, by rw [Hql.out]; exact hl8, hzl, hzh.1, hzh.2.1, hzh.2.2.1, hzh.2.2.2.1, HBQ.out⟩
        · refine Pipes.mono (b := w.heap.size + 1) ?_ (by omega)
          (repeat (first | (with_reducible assumption) | ((with_reducible refine Pipes.setLow ?_ ?hsz); (case hsz => (first | omega | (simp; done) | (simp; omega) | (simp at *; omega)))) | (with_reducible refine Pipes.alloc' ?_ _) | (with_reducible refine Pipes.drew' ?_) | (with_reducible refine Pipes.drewN' ?_ _) | ((with_reducible refine Pipes.keep ?_ (by with_reducible assumption)))))
        · refine Rd.more (K := K + 250) ?_ (by omega)
          (repeat (first | (with_reducible assumption) | ((with_reducible refine Rd.set ?_ ?hsz _); (case hsz => (first | omega | (simp; done) | (simp; omega) | (simp at *; omega)))) | (with_reducible refine Rd.alloc' ?_ _) | (with_reducible refine Rd.drew ?_) | (with_reducible refine Rd.drewN ?_ _) | ((with_reducible refine Rd.keep ?_ (by with_reducible assumption)))))
        · exact grow_set (grow_set hg (.inl (Nat.le_refl _)) _) (.inl (Nat.le_refl _)) _
  · obtain ⟨ns, n0, n1, n2, n3⟩ := id nb2
    obtain ⟨bs, b0, b1, b2, b3⟩ := id bx2
    replace hr2 := hr2.more (K' := K + 250) (by omega)
    go_wp2
    refine bodyPost_ret (v := .tuple #[.agg #[.int .i64 z, .slice PA ps.length pc], .int .i64 i, .int .i64 j]) (by simp [results, Try.results44, go_sem, b0, b1]) rfl ⟨z, ps, _, i, j, rfl, ?_, ?_, ?_, hl8, hzl, hzh⟩
    · refine Pipes.mono (b := w.heap.size + 1) ?_ (by omega)
      (repeat (first | (with_reducible assumption) | ((with_reducible refine Pipes.setLow ?_ ?hsz); (case hsz => (first | omega | (simp; done) | (simp; omega) | (simp at *; omega)))) | (with_reducible refine Pipes.alloc' ?_ _) | (with_reducible refine Pipes.drew' ?_) | (with_reducible refine Pipes.drewN' ?_ _) | ((with_reducible refine Pipes.keep ?_ (by with_reducible assumption)))))
    · refine Rd.more (K := K + 250) ?_ (by omega)
      (repeat (first | (with_reducible assumption) | ((with_reducible refine Rd.set ?_ ?hsz _); (case hsz => (first | omega | (simp; done) | (simp; omega) | (simp at *; omega)))) | (with_reducible refine Rd.alloc' ?_ _) | (with_reducible refine Rd.drew ?_) | (with_reducible refine Rd.drewN ?_ _) | ((with_reducible refine Rd.keep ?_ (by with_reducible assumption)))))
    · exact grow_set (grow_set hgw2 (.inl (Nat.le_refl _)) _) (.inl (Nat.le_refl _)) _

end Go.Proofs.Ytphbmlephldaaaa
