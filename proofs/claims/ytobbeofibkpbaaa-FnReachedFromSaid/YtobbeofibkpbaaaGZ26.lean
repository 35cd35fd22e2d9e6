/- Plain facts. -/
import Derived.Test.YtobbeofibkpbaaaGZ35
import Derived.Deep.RegionHeld3
import Derived.Test.YtobbeofibkpbaaaGZ3
import Derived.Test.YtobbeofibkpbaaaMG
import Derived.Deep.RegionWith
/- Contracts of the laws' draws: a net whose pipes are often all free. -/
namespace Go.Proofs.Ytobbeofibkpbaaa
open Go.RowKit

theorem set2_list (qs : List Pp) (k : Nat) (hk : k < qs.length) (x : Int) :
    (qs.flatMap Pp.cells).set (k * 5 + 2) (.int .i64 x) = (qs.set k ⟨qs[k].fr, qs[k].to, x, qs[k].mo, qs[k].co⟩).flatMap Pp.cells := by
  induction qs generalizing k with
  | nil => simp at hk
  | cons q qs ih =>
    cases k with
    | zero => simp [List.flatMap_cons, Pp.cells]
    | succ k =>
      have h := ih k (by simpa using hk)
      have e : (k + 1) * 5 + 2 = (k * 5 + 2) + 5 := by omega
      rw [e, List.set_cons_succ, List.flatMap_cons, List.flatMap_cons, List.getElem_cons_succ, ← h]
      simp [Pp.cells]

set_option maxRecDepth 20000 in
set_option maxHeartbeats 4000000 in
set_option maxRecDepth 20000 in
theorem l20Free_any (n : Int) (rg m c K : Nat) (A : Option Addr) (w : World) (h : Rd w rg A m c K) (hK : K ≤ 40000) (h1 : 1 ≤ n) (h2 : n ≤ 1000) :
    Calls Try.prog 58 #[.pointer (some ⟨rg, 0, none⟩), .int .i64 n] w (Ended w rg A m c (K + 300)) := by
  have hrg := h.1
  go_enter Try.func58, Try.ntmps58
  go_wp2_with fail
  refine (l20Ends_any n rg m c K A _ (h.keep (by (repeat (first | (with_reducible assumption) | (with_reducible exact Below.refl _ _) | ((with_reducible refine Below.alloc ?_ ?hsz _); (case hsz => (first | omega | (simp; done) | (simp; omega) | (simp at *; omega)))) | ((with_reducible refine Below.setCell ?_ ?hsz _); (case hsz => (first | omega | (simp; done) | (simp; omega) | (simp at *; omega)))) | (with_reducible refine Below.drew ?_) | (with_reducible refine below_drewN ?_ _) | ((with_reducible refine Below.trans ?_ (Below.mono (by with_reducible assumption) ?hsz)); (case hsz => (first | omega | (simp; done) | (simp; omega) | (simp at *; omega)))))))) (by omega) h1 h2).mono ?_
  rintro e w1 ⟨z, ps, v, i, j, rfl, hp1, hr1, hg1, hl8, hzl, hzh⟩
  rw [World.size_alloc] at hp1
  have bx1 : Box2 w1 w.heap.size (.int .i64 0) (.slice none 0 0) := (Box2.new w _ _ 25).grown hg1 (by simp; omega)
  have hs1 := hg1.size
  rw [World.size_alloc] at hs1
  have hgw1 : w.grownBy w1 (some rg) := grow_more (grow_alloc (grow_refl w _) _) hg1 (fun q hq => .inr hq)
  obtain ⟨PA, pc, rfl, hc1, hc2, hsm, -⟩ := hp1.form
  unfold maxLen at hc2
  have nb1 : Box2 (w1.alloc (.cells #[.int .i64 z, .slice PA ps.length pc] 25)) w1.heap.size (.int .i64 z) (.slice PA ps.length pc) := Box2.new _ _ _ _
  clear hg1
  go_wp2_with fail
  refine (pick_any 9 rg m c _ A _ (hr1.alloc' _) (by omega) (by omega) (by omega)).mono ?_
  rintro e w2 ⟨x2, rfl, x20, x21, hr2, hg2, hz2⟩
  have nb2 := nb1.grown hg2 (by simp; omega)
  have bx2 := (bx1.keep ((Below.refl _ _).alloc (Nat.le_refl _) _)).grown hg2 (by simp; omega)
  have hgw2 : w.grownBy w2 (some rg) := grow_more (grow_alloc hgw1 _) hg2 (fun q hq => .inr hq)
  have hp2 := (hp1.alloc' (.cells #[.int .i64 z, .slice PA ps.length pc] 25)).grown hg2 (by omega)
  have hgp : ∀ q, (Value.slice PA ps.length pc).ownBlock = some q → q < w1.heap.size ∧ w.heap.size + 1 ≤ q := fun q hq => ⟨(hp1.1.lt q hq).2, (hp1.1.lt q hq).1⟩
  clear hg2 hz2 hp1 hr1 nb1 bx1 hgw1
  by_cases hx : 0 < x2
  · go_wp2_with fail
    go_loopw [10] (fun t wr => ∃ (k : Nat) (qs : List Pp), k ≤ ps.length ∧ t = .int .i64 k ∧ qs.length = ps.length ∧ wr.ownsRow (w.heap.size + 1) 45 5 (.slice PA ps.length pc) ps.length (qs.flatMap Pp.cells) ∧
        Rd wr rg A m c (K + 250) ∧ w.grownBy wr (some rg) ∧ Box2 wr w.heap.size (.int .i64 0) (.slice none 0 0) ∧ Box2 wr w1.heap.size (.int .i64 z) (.slice PA ps.length pc)) (fun t _ => ps.length - (intOf t).toNat)
    case atStart => exact ⟨0, ps, by omega, rfl, rfl, hp2.1, hr2.more (by omega), hgw2, bx2, nb2⟩
    case round =>
      obtain ⟨k, qs, hk, rfl, hql, hown, hr, hg, bx, nb⟩ := hrel
      clear hr2 hgw2 bx2 nb2 hp2
      have Hql := Lib.hid hql
      clear hql
      obtain ⟨ns, n0, n1, n2, n3⟩ := id nb
      by_cases hlt : k < ps.length
      · obtain ⟨gp, cap, hv, hga, hgb⟩ := hown.form (by omega)
        injection hv with hv1 hv2 hv3
        subst hv1
        subst hv3
        have hkq : k < qs.length := by have := Hql.out; omega
        obtain ⟨hgw, ⟨o0, o1, o2, o3, o4⟩, hof⟩ := own_cells5 (k := k) hown hkq
        have hgp' := (hgp gp rfl).1
        have hne1 : gp ≠ w1.heap.size := by omega
        have hof2 := hof (k * 5 + 2)
        go_upto_region 6 with fail
        go_region_held3 (fun w' => w'.cell? ⟨w1.heap.size, 1, none⟩ = some (.slice (some ⟨gp, 0, none⟩) ps.length pc) ∧ w'.cell? ⟨gp, k * 5 + 3, none⟩ = some (.int .i64 qs[k].mo))
          (first | exact ⟨cell_drew n1, cell_drew o3⟩ | exact ⟨(World.cell?_setCell_other _ _ _ _ (by intro h; injection h with h1 h2; omega)).trans (cell_drew n1), (World.cell?_setCell_other _ _ _ _ (by intro h; injection h with h1 h2; omega)).trans (cell_drew o3)⟩)
          (fail)
        have hset : ∀ x : Int, (wr.setCell ⟨gp, k * 5 + 2, none⟩ (.int .i64 x)).ownsRow (w.heap.size + 1) 45 5 (.slice (some ⟨gp, 0, none⟩) ps.length pc) ps.length ((qs.set k ⟨qs[k].fr, qs[k].to, x, qs[k].mo, qs[k].co⟩).flatMap Pp.cells) := fun x => by
          have hh := (hown.stored (k * 5 + 2) (.int .i64 x)).1
          rw [set2_list qs k hkq x] at hh
          exact hh
        have Hset := Lib.hid hset
        clear hset
        all_goals
          go_wp2
          go_roundw
          case rel => exact ⟨k + 1, qs.set k ⟨qs[k].fr, qs[k].to, (if qs[k].mo < 0 then qs[k].mo else 0), qs[k].mo, qs[k].co⟩, by omega, by go_num, by simp; exact Hql.out, Hset.out _, (hr.set (by simp; omega) _).drew, grow_drew (grow_set hg (.inl (by simp; omega)) _), bx.far (by simp; omega) _, nb.far (by simp; omega) _⟩
          case measure => simp [intOf]; omega
      · obtain ⟨bs, b0, b1, b2, b3⟩ := id bx
        have hP : Pipes wr (w.heap.size + 1) (.slice PA ps.length pc) qs := ⟨by rw [Hql.out]; exact hown, by rw [Hql.out]; exact hsm⟩
        go_wp2
        refine bodyPost_ret (v := .tuple #[.agg #[.int .i64 z, .slice PA ps.length pc], .int .i64 i, .int .i64 j]) (by simp [results, Try.results58, go_sem, b0, b1]) rfl ⟨z, qs, _, i, j, rfl, ?_, ?_, ?_, by rw [Hql.out]; exact hl8, hzl, hzh⟩
        · refine Pipes.mono (b := w.heap.size + 1) ?_ (by omega)
          (repeat (first | (with_reducible assumption) | ((with_reducible refine Pipes.setLow ?_ ?hsz); (case hsz => (first | omega | (simp; done) | (simp; omega) | (simp at *; omega)))) | (with_reducible refine Pipes.alloc' ?_ _) | (with_reducible refine Pipes.drew' ?_) | (with_reducible refine Pipes.drewN' ?_ _) | ((with_reducible refine Pipes.keep ?_ (by with_reducible assumption)))))
        · refine Rd.more (K := K + 250) ?_ (by omega)
          (repeat (first | (with_reducible assumption) | ((with_reducible refine Rd.set ?_ ?hsz _); (case hsz => (first | omega | (simp; done) | (simp; omega) | (simp at *; omega)))) | (with_reducible refine Rd.alloc' ?_ _) | (with_reducible refine Rd.drew ?_) | (with_reducible refine Rd.drewN ?_ _) | ((with_reducible refine Rd.keep ?_ (by with_reducible assumption)))))
        · exact grow_set (grow_set hg (.inl (Nat.le_refl _)) _) (.inl (Nat.le_refl _)) _
  · obtain ⟨ns, n0, n1, n2, n3⟩ := id nb2
    obtain ⟨bs, b0, b1, b2, b3⟩ := id bx2
    replace hr2 := hr2.more (K' := K + 250) (by omega)
    go_wp2
    refine bodyPost_ret (v := .tuple #[.agg #[.int .i64 z, .slice PA ps.length pc], .int .i64 i, .int .i64 j]) (by simp [results, Try.results58, go_sem, b0, b1]) rfl ⟨z, ps, _, i, j, rfl, ?_, ?_, ?_, hl8, hzl, hzh⟩
    · refine Pipes.mono (b := w.heap.size + 1) ?_ (by omega)
      (repeat (first | (with_reducible assumption) | ((with_reducible refine Pipes.setLow ?_ ?hsz); (case hsz => (first | omega | (simp; done) | (simp; omega) | (simp at *; omega)))) | (with_reducible refine Pipes.alloc' ?_ _) | (with_reducible refine Pipes.drew' ?_) | (with_reducible refine Pipes.drewN' ?_ _) | ((with_reducible refine Pipes.keep ?_ (by with_reducible assumption)))))
    · refine Rd.more (K := K + 250) ?_ (by omega)
      (repeat (first | (with_reducible assumption) | ((with_reducible refine Rd.set ?_ ?hsz _); (case hsz => (first | omega | (simp; done) | (simp; omega) | (simp at *; omega)))) | (with_reducible refine Rd.alloc' ?_ _) | (with_reducible refine Rd.drew ?_) | (with_reducible refine Rd.drewN ?_ _) | ((with_reducible refine Rd.keep ?_ (by with_reducible assumption)))))
    · exact grow_set (grow_set hgw2 (.inl (Nat.le_refl _)) _) (.inl (Nat.le_refl _)) _

end Go.Proofs.Ytobbeofibkpbaaa

/- Contracts of the laws' draws: a net, a flow that all pipes often hold, and two nodes. -/
namespace Go.Proofs.Ytobbeofibkpbaaa
open Go.RowKit

/-- what l20Pushed leaves -/
def Pushed (w : World) (rg : Nat) (A : Option Addr) (m c K : Nat) (e : Ending) (w' : World) : Prop :=
  ∃ (z : Int) (ps : List Pp) (v : Value) (xs : List Int) (u : Value) (i j : Int), e = .returned (.tuple #[.agg #[.int .i64 z, v], u, .int .i64 i, .int .i64 j]) ∧ Pipes w' w.heap.size v ps ∧ Ints w' w.heap.size u xs ∧ xs.length = ps.length ∧ Rd w' rg A m c K ∧ w.grownBy w' (some rg) ∧ ps.length ≤ 8 ∧ 1 ≤ z ∧ z ≤ 6 ∧ 0 ≤ i ∧ 0 ≤ j ∧ (2 ≤ z → i < z)

set_option maxRecDepth 20000 in
set_option maxHeartbeats 4000000 in
set_option maxRecDepth 20000 in
theorem l20Pushed_any (rg m c K : Nat) (A : Option Addr) (w : World) (h : Rd w rg A m c K) (hK : K ≤ 39000) :
    Calls Try.prog 82 #[.pointer (some ⟨rg, 0, none⟩)] w (Pushed w rg A m c (K + 400)) := by
  have hrg := h.1
  go_enter Try.func82, Try.ntmps82
  go_wp2_with fail
  refine (l20Free_any 14 rg m c K A _ (h.keep (by (repeat (first | (with_reducible assumption) | (with_reducible exact Below.refl _ _) | ((with_reducible refine Below.alloc ?_ ?hsz _); (case hsz => (first | omega | (simp; done) | (simp; omega) | (simp at *; omega)))) | ((with_reducible refine Below.setCell ?_ ?hsz _); (case hsz => (first | omega | (simp; done) | (simp; omega) | (simp at *; omega)))) | (with_reducible refine Below.drew ?_) | (with_reducible refine below_drewN ?_ _) | ((with_reducible refine Below.trans ?_ (Below.mono (by with_reducible assumption) ?hsz)); (case hsz => (first | omega | (simp; done) | (simp; omega) | (simp at *; omega)))))))) (by omega) (by omega) (by omega)).mono ?_
  rintro e w1 ⟨z, ps, v, i, j, rfl, hp1, hr1, hg1, hl8, hzl, hzh, hi0, hj0, hiz⟩
  rw [World.size_alloc] at hp1
  have bx1 : Box2 w1 w.heap.size (.int .i64 0) (.slice none 0 0) := (Box2.new w _ _ 25).grown hg1 (by simp; omega)
  have hs1 := hg1.size
  rw [World.size_alloc] at hs1
  have hgw1 : w.grownBy w1 (some rg) := grow_more (grow_alloc (grow_refl w _) _) hg1 (fun q hq => .inr hq)
  obtain ⟨PA, pc, rfl, hc1, hc2, hsm, -⟩ := hp1.form
  unfold maxLen at hc2
  have nb1 : Box2 (w1.alloc (.cells #[.int .i64 z, .slice PA ps.length pc] 25)) w1.heap.size (.int .i64 z) (.slice PA ps.length pc) := Box2.new _ _ _ _
  have hmk := fun W => run_make_ints (n := ps.length) hsm W
  have hpl : ∀ q, (Value.slice PA ps.length pc).ownBlock = some q → q < w1.heap.size ∧ w.heap.size + 1 ≤ q := fun q hq => ⟨(hp1.1.lt q hq).2, (hp1.1.lt q hq).1⟩
  have HPL := Lib.hid hpl
  clear hg1 hpl
  go_wp2_with fail
  obtain ⟨wm, hwm⟩ : ∃ wm, wm = (w1.alloc (.cells #[.int .i64 z, .slice PA ps.length pc] 25)).alloc (.cells (madeCells #[.int .i64 0] ps.length) 3) := ⟨_, rfl⟩
  have hme : wm.heap.size = w1.heap.size + 2 := by rw [hwm]; simp
  have hxm : Ints wm (w1.heap.size + 1) (.slice (some ⟨w1.heap.size + 1, 0, none⟩) ps.length ps.length) (List.replicate ps.length 0) := by rw [hwm]; exact Ints_made _ (by simp) hsm (by simp)
  have bxm : Box2 wm w.heap.size (.int .i64 0) (.slice none 0 0) := by rw [hwm]; exact (bx1.keep ((Below.refl _ _).alloc (Nat.le_refl _) _)).keep ((Below.refl _ _).alloc (Nat.le_refl _) _)
  have nbm : Box2 wm w1.heap.size (.int .i64 z) (.slice PA ps.length pc) := by rw [hwm]; exact nb1.keep ((Below.refl _ _).alloc (Nat.le_refl _) _)
  have hpm : Pipes wm (w.heap.size + 1) (.slice PA ps.length pc) ps := by rw [hwm]; exact (hp1.alloc' _).alloc' _
  have hrm : Rd wm rg A m c (K + 300) := by rw [hwm]; exact (hr1.alloc' _).alloc' _
  have hgm : w.grownBy wm (some rg) := by rw [hwm]; exact grow_alloc (grow_alloc hgw1 _) _
  rw [← hwm]
  clear hwm bx1 nb1 hp1 hr1 hgw1
  refine (pick_any 3 rg m c _ A _ hrm (by omega) (by omega) (by omega)).mono ?_
  rintro e w2 ⟨x2, rfl, x20, x21, hr2, hg2, hz2⟩
  have hx2 := hxm.grown hg2 (by omega)
  have bx2 := bxm.grown hg2 (by simp; omega)
  have nb2 := nbm.grown hg2 (by simp; omega)
  have hp2 := hpm.grown hg2 (by omega)
  have hgw2 : w.grownBy w2 (some rg) := grow_more hgm hg2 (fun q hq => .inr hq)
  have hs2 : w2.heap.size = w1.heap.size + 2 := by omega
  clear hg2 hz2 hxm bxm nbm hpm hrm hgm hme
  go_wp2_with fail
  go_loopw [9, 10] (fun t9 t10 wr => ∃ (k : Nat) (ys : List Int), k ≤ 2 ∧ t10 = .int .i64 k ∧ ys.length = ps.length ∧ Ints wr (w1.heap.size + 1) t9 ys ∧ Rd wr rg A m c (K + 301) ∧ w.grownBy wr (some rg) ∧ Pipes wr (w.heap.size + 1) (.slice PA ps.length pc) ps ∧
      Box2 wr w.heap.size (.int .i64 0) (.slice none 0 0) ∧ Box2 wr w1.heap.size (.int .i64 z) (.slice PA ps.length pc) ∧ w1.heap.size + 2 ≤ wr.heap.size) (fun _ t10 _ => (intOf t10).toNat)
  case atStart => exact ⟨x2.toNat, List.replicate ps.length 0, by omega, by rw [show ((x2.toNat : Nat) : Int) = x2 by omega], by simp, hx2, hr2, hgw2, hp2, bx2, nb2, by omega⟩
  case round =>
    obtain ⟨k, ys, hk, rfl, hyl, hy, hr, hg, hp, bx, nb, hsz⟩ := hrel
    clear hr2 hgw2 bx2 nb2 hp2 hx2 hs2
    have Hyl := Lib.hid hyl
    clear hyl
    obtain ⟨ns, n0, n1, n2, n3⟩ := id nb
    by_cases hk0 : 0 < k
    · have hk1 : ((k - 1 : Nat) : Int) = (k : Int) - 1 := by omega
      have Hk1 := Lib.hid hk1
      clear hk1
      go_wp2_with fail
      with_reducible refine (specPushedOn_any z i j _ _ ps ys _ _ _ hp hy).mono ?_
      rintro e w3 ⟨r3, rfl, hr3, hb3⟩
      have hz3 := hb3.size
      have hp3 := hp.keep hb3
      have hy3 := hy.keep hb3
      have bx3 := bx.keep hb3
      have nb3 := nb.keep hb3
      have hr30 : Rd w3 rg A m c (K + 301) := hr.keep hb3
      have hg3 : w.grownBy w3 (some rg) := grow_below hg hb3
      have hr31 := hr3.mono (b' := w1.heap.size + 1) (by omega)
      clear n0 n1 n2 n3 ns hr3 hy hp bx nb hr hg hb3
      by_cases hw : wayB z ps ys i j = true
      · rw [hw]
        have hpl : (pushR z ps ys i j).length = ps.length := by rw [pushR, if_pos hw, pushL_len]; exact Hyl.out
        have HPL2 := Lib.hid hpl
        clear hpl hw
        go_wp2
        go_roundw
        case rel => exact ⟨k - 1, pushR z ps ys i j, by omega, by rw [Hk1.out], HPL2.out, hr31, hr30, hg3, hp3, bx3, nb3, by omega⟩
        case measure => simp [intOf]; omega
      · have hw' : wayB z ps ys i j = false := by simpa using hw
        rw [hw']
        clear hw hw'
        go_wp2
        go_roundw
        case rel => exact ⟨k - 1, ys, by omega, by rw [Hk1.out], Hyl.out, hy3, hr30, hg3, hp3, bx3, nb3, by omega⟩
        case measure => simp [intOf]; omega
    · have hk00 : k = 0 := by omega
      subst hk00
      obtain ⟨YA, yc, rfl, hy1, hy2, hysm, -⟩ := hy.form
      unfold maxLen at hy2
      obtain ⟨M, hM⟩ : ∃ M, ys.length = M := ⟨_, rfl⟩
      have hMp : M = ps.length := hM ▸ Hyl.out
      rw [hM] at hy hy1 hysm ⊢
      have HMP := Lib.hid hMp
      clear hMp
      by_cases hM0 : 0 < M
      · obtain ⟨gy, cy, hvy, hRy⟩ := hy.row (by rw [hM]; exact hM0)
        rw [hM] at hvy hRy
        simp only [Value.slice.injEq, true_and] at hvy
        obtain ⟨rfl, rfl⟩ := hvy
        clear hy
        go_wp2_with fail
        refine (odd_any 9 rg m c _ A _ hr (by omega) (by omega) (by omega)).mono ?_
        rintro e w4 ⟨bb, rfl, hr4, hg4, hz4⟩
        have hrg2 := hr.1
        have hR4 := hRy.grown hg4 (by have := hRy.lt; intro hh; injection hh with hh; omega)
        have bx4 := bx.grown hg4 (by simp; omega)
        have hp4 := hp.grown hg4 (by omega)
        have nb4 := nb.grown hg4 (by simp; omega)
        have hgw4 : w.grownBy w4 (some rg) := grow_more hg hg4 (fun q hq => .inr hq)
        clear hr hRy bx hp nb hg hg4 n0 n1 n2 n3 ns
        cases bb with
        | false =>
          obtain ⟨bs, b0, b1, b2, b3⟩ := id bx4
          obtain ⟨ns, n0, n1, n2, n3⟩ := id nb4
          have hr40 := hr4.more (K' := K + 400) (by omega)
          have hI4 := hR4.ints
          go_wp2
          refine bodyPost_ret (v := .tuple #[.agg #[.int .i64 z, .slice PA ps.length pc], .slice (some ⟨gy, 0, none⟩) M yc, .int .i64 i, .int .i64 j]) (by simp [results, Try.results82, go_sem, b0, b1]) rfl ⟨z, ps, _, ys, _, i, j, rfl, ?_, ?_, by (try simp only [List.length_set]); rw [hM]; exact HMP.out, ?_, ?_, hl8, hzl, hzh, hi0, hj0, hiz⟩
          · exact ((hp4.setLow (by simp)).setLow (by simp)).mono (by omega)
          · exact ((hI4.setLow (by simp; omega)).setLow (by simp; omega)).mono (by omega)
          · exact (hr40.set (by simp; omega) _).set (by simp; omega) _
          · exact grow_set (grow_set hgw4 (.inl (Nat.le_refl _)) _) (.inl (Nat.le_refl _)) _
        | true =>
          obtain ⟨ns, n0, n1, n2, n3⟩ := id nb4
          go_wp2_with fail
          refine (pick_any M rg m c _ A _ hr4 (by omega) (by omega) (by have := HMP.out; omega)).mono ?_
          rintro e w5 ⟨x5, rfl, x50, x51, hr5, hg5, hz5⟩
          have hR5 := hR4.grown hg5 (by have := hR4.lt; intro hh; injection hh with hh; omega)
          have bx5 := bx4.grown hg5 (by simp; omega)
          have hp5 := hp4.grown hg5 (by omega)
          have nb5 := nb4.grown hg5 (by simp; omega)
          have hgw5 : w.grownBy w5 (some rg) := grow_more hgw4 hg5 (fun q hq => .inr hq)
          obtain ⟨q5, rfl⟩ : ∃ q5 : Nat, x5 = (q5 : Int) := ⟨x5.toNat, by omega⟩
          clear hr4 hR4 bx4 hp4 nb4 hgw4 hg5 n0 n1 n2 n3 ns
          go_wp2_with fail
          refine (pick_any 4 rg m c _ A _ hr5 (by omega) (by omega) (by omega)).mono ?_
          rintro e w6 ⟨x6, rfl, x60, x61, hr6, hg6, hz6⟩
          have hR6 := hR5.grown hg6 (by have := hR5.lt; intro hh; injection hh with hh; omega)
          have bx6 := bx5.grown hg6 (by simp; omega)
          have hp6 := hp5.grown hg6 (by omega)
          have nb6 := nb5.grown hg6 (by simp; omega)
          have hgw6 : w.grownBy w6 (some rg) := grow_more hgw5 hg6 (fun q hq => .inr hq)
          clear hr5 hR5 bx5 hp5 nb5 hgw5 hg6
          obtain ⟨y0, y1⟩ := hR6.at' q5 (by omega)
          have hg6l := hR6.lt
          have hR7 := (hR6.set q5 x6).ints
          have bx7 := bx6.far (p := ⟨gy, q5, none⟩) (by simp; omega) (.int .i64 x6)
          have nb7 := nb6.far (p := ⟨gy, q5, none⟩) (by simp; omega) (.int .i64 x6)
          have hrg6 := hr6.1
          have hr7 := (hr6.set (p := ⟨gy, q5, none⟩) (by simp; omega) (.int .i64 x6)).more (K' := K + 400) (by omega)
          have hgw7 := grow_set hgw6 (p := ⟨gy, q5, none⟩) (.inl (by simp; omega)) (.int .i64 x6)
          have hp7 : Pipes (w6.setCell ⟨gy, q5, none⟩ (.int .i64 x6)) (w.heap.size + 1) (.slice PA ps.length pc) ps := by
            refine ⟨?_, hp6.2⟩
            rcases hp6.1.2 with h0 | ⟨g', cap', cur, hv, hg, hh, r⟩
            · exact ⟨hp6.1.1, .inl h0⟩
            · refine ⟨hp6.1.1, .inr ⟨g', cap', cur, hv, hg, ?_, r⟩⟩
              have hq := (HPL.out g' (by rw [hv]; rfl)).1
              rw [Below.heap_setCell w6 ⟨gy, q5, none⟩ _ g' (by simp; omega)]; exact hh
          obtain ⟨bs, b0, b1, b2, b3⟩ := id bx7
          obtain ⟨ns, n0, n1, n2, n3⟩ := id nb7
          clear bx6 nb6
          go_wp2
          refine bodyPost_ret (v := .tuple #[.agg #[.int .i64 z, .slice PA ps.length pc], .slice (some ⟨gy, 0, none⟩) M yc, .int .i64 i, .int .i64 j]) (by simp [results, Try.results82, go_sem, b0, b1]) rfl ⟨z, ps, _, (ys.set q5 x6), _, i, j, rfl, ?_, ?_, by (try simp only [List.length_set]); rw [hM]; exact HMP.out, ?_, ?_, hl8, hzl, hzh, hi0, hj0, hiz⟩
          · exact ((hp7.setLow (by simp)).setLow (by simp)).mono (by omega)
          · exact ((hR7.setLow (by simp; omega)).setLow (by simp; omega)).mono (by omega)
          · exact (hr7.set (by simp; omega) _).set (by simp; omega) _
          · exact grow_set (grow_set hgw7 (.inl (Nat.le_refl _)) _) (.inl (Nat.le_refl _)) _
      · have hM00 : M = 0 := by omega
        subst hM00
        obtain ⟨bs, b0, b1, b2, b3⟩ := id bx
        have hr40 := hr.more (K' := K + 400) (by omega)
        go_wp2
        refine bodyPost_ret (v := .tuple #[.agg #[.int .i64 z, .slice PA ps.length pc], .slice YA 0 yc, .int .i64 i, .int .i64 j]) (by simp [results, Try.results82, go_sem, b0, b1]) rfl ⟨z, ps, _, ys, _, i, j, rfl, ?_, ?_, by (try simp only [List.length_set]); rw [hM]; exact HMP.out, ?_, ?_, hl8, hzl, hzh, hi0, hj0, hiz⟩
        · exact ((hp.setLow (by simp)).setLow (by simp)).mono (by omega)
        · exact ((hy.setLow (by simp; omega)).setLow (by simp; omega)).mono (by omega)
        · exact (hr40.set (by simp; omega) _).set (by simp; omega) _
        · exact grow_set (grow_set hg (.inl (Nat.le_refl _)) _) (.inl (Nat.le_refl _)) _

end Go.Proofs.Ytobbeofibkpbaaa

/- Contracts of the laws' draws, chapter 3. -/
namespace Go.Proofs.Ytobbeofibkpbaaa
open Go.RowKit

def DrawnPushed (w : World) (e : Ending) (w' : World) : Prop :=
  ∃ (z : Int) (ps : List Pp) (u : Value) (xs : List Int) (r : Value) (i j : Int), e = .returned (.tuple #[.agg #[.int .i64 z, u], r, .int .i64 i, .int .i64 j]) ∧ Pipes w' w.heap.size u ps ∧ Ints w' w.heap.size r xs ∧ xs.length = ps.length ∧ Below w.heap.size w w' ∧ ps.length ≤ 8 ∧ 1 ≤ z ∧ z ≤ 6 ∧ 0 ≤ i ∧ 0 ≤ j ∧ (2 ≤ z → i < z)
def DrawnReached (w : World) (e : Ending) (w' : World) : Prop :=
  ∃ (z : Int) (ps : List Pp) (u : Value) (xs : List Int) (r : Value) (i : Int), e = .returned (.tuple #[.agg #[.int .i64 z, u], r, .int .i64 i]) ∧ Pipes w' w.heap.size u ps ∧ Ints w' w.heap.size r xs ∧ xs.length = ps.length ∧ Below w.heap.size w w' ∧ ps.length ≤ 8 ∧ 1 ≤ z ∧ z ≤ 6 ∧ 0 ≤ i ∧ (2 ≤ z → i < z)
def DrawnEnds2 (w : World) (e : Ending) (w' : World) : Prop :=
  ∃ (z : Int) (ps : List Pp) (u : Value) (i j : Int), e = .returned (.tuple #[.agg #[.int .i64 z, u], .int .i64 i, .int .i64 j]) ∧ Pipes w' w.heap.size u ps ∧ Below w.heap.size w w' ∧ ps.length ≤ 8 ∧ 1 ≤ z ∧ z ≤ 6 ∧ 0 ≤ i ∧ 0 ≤ j ∧ (2 ≤ z → i < z)

set_option maxHeartbeats 1000000 in
set_option maxRecDepth 20000 in
theorem drawPushedOn_any (v : Value) (n : Nat) (w : World) (h : ArgBytes w v n) : Calls Try.prog 35 #[v] w (DrawnPushed w) := by
  have bx0 := Box2.new w (.int .i64 0) (.slice none 0 0) 25
  go_enter Try.func35, Try.ntmps35
  go_wp2_with fail
  refine (l20Open_any v n _ (h.keep (by (repeat (first | (with_reducible assumption) | (with_reducible exact Below.refl _ _) | ((with_reducible refine Below.alloc ?_ ?hsz _); (case hsz => (first | omega | (simp; done) | (simp; omega) | (simp at *; omega)))) | ((with_reducible refine Below.setCell ?_ ?hsz _); (case hsz => (first | omega | (simp; done) | (simp; omega) | (simp at *; omega)))) | (with_reducible refine Below.drew ?_) | (with_reducible refine below_drewN ?_ _) | ((with_reducible refine Below.trans ?_ (Below.mono (by with_reducible assumption) ?hsz)); (case hsz => (first | omega | (simp; done) | (simp; omega) | (simp at *; omega))))))))).mono ?_
  rintro e w1 ⟨A, m, c, rfl, hr1, hb1, hz1⟩
  have bx1 := bx0.keep (hb1.mono (by simp))
  rw [World.size_alloc] at hr1 hz1
  have hgo : Below w.heap.size w w1 := by (repeat (first | (with_reducible assumption) | (with_reducible exact Below.refl _ _) | ((with_reducible refine Below.alloc ?_ ?hsz _); (case hsz => (first | omega | (simp; done) | (simp; omega) | (simp at *; omega)))) | ((with_reducible refine Below.setCell ?_ ?hsz _); (case hsz => (first | omega | (simp; done) | (simp; omega) | (simp at *; omega)))) | (with_reducible refine Below.drew ?_) | (with_reducible refine below_drewN ?_ _) | ((with_reducible refine Below.trans ?_ (Below.mono (by with_reducible assumption) ?hsz)); (case hsz => (first | omega | (simp; done) | (simp; omega) | (simp at *; omega))))))
  go_wp2_with fail
  with_reducible refine (l20Pushed_any (w.heap.size + 1) m c 0 A _ hr1 (by omega)).mono ?_
  rintro e w2 ⟨z, ps, u, xs, r, i, j, rfl, hp2, hx2, hlen, hr2, hg2, hl8, hzl, hzh, hi0, hj0, hiz⟩
  have bx2 := bx1.grown hg2 (by simp)
  have hs2 := hg2.size
  have hb2 : Below w.heap.size w w2 := hgo.trans (below_grow hg2 (by omega) (fun q hq => by injection hq with hq; omega))
  obtain ⟨PA, pc, rfl, hc1, hc2, hsm, -⟩ := hp2.form
  obtain ⟨XA, xc, rfl, -, -, -, -⟩ := hx2.form
  obtain ⟨bs, b0, b1, b2, b3⟩ := id bx2
  obtain ⟨M, hM⟩ : ∃ M, xs.length = M := ⟨_, rfl⟩
  have HM := Lib.hid hlen
  rw [hM] at hx2 ⊢
  clear hlen hM
  go_wp2
  refine bodyPost_ret (v := .tuple #[.agg #[.int .i64 z, .slice PA ps.length pc], .slice XA M xc, .int .i64 i, .int .i64 j]) (by simp [results, Try.results35, go_sem, b0, b1]) rfl ⟨z, ps, _, xs, _, i, j, rfl, ?_, ?_, HM.out, ?_, hl8, hzl, hzh, hi0, hj0, hiz⟩
  · refine Pipes.mono (b := w1.heap.size) ?_ (by omega)
    (repeat (first | (with_reducible assumption) | ((with_reducible refine Pipes.setLow ?_ ?hsz); (case hsz => (first | omega | (simp; done) | (simp; omega) | (simp at *; omega)))) | (with_reducible refine Pipes.alloc' ?_ _) | (with_reducible refine Pipes.drew' ?_) | (with_reducible refine Pipes.drewN' ?_ _) | ((with_reducible refine Pipes.keep ?_ (by with_reducible assumption)))))
  · refine Ints.mono (b := w1.heap.size) ?_ (by omega)
    (repeat (first | (with_reducible assumption) | ((with_reducible refine Ints.setLow ?_ ?hsz); (case hsz => (first | omega | (simp; done) | (simp; omega) | (simp at *; omega)))) | (with_reducible refine Ints.alloc' ?_ _) | (with_reducible refine Ints.drew' ?_) | (with_reducible refine Ints.drewN' ?_ _) | ((with_reducible refine Ints.keep ?_ (by with_reducible assumption)))))
  · (repeat (first | (with_reducible assumption) | (with_reducible exact Below.refl _ _) | ((with_reducible refine Below.alloc ?_ ?hsz _); (case hsz => (first | omega | (simp; done) | (simp; omega) | (simp at *; omega)))) | ((with_reducible refine Below.setCell ?_ ?hsz _); (case hsz => (first | omega | (simp; done) | (simp; omega) | (simp at *; omega)))) | (with_reducible refine Below.drew ?_) | (with_reducible refine below_drewN ?_ _) | ((with_reducible refine Below.trans ?_ (Below.mono (by with_reducible assumption) ?hsz)); (case hsz => (first | omega | (simp; done) | (simp; omega) | (simp at *; omega))))))

set_option maxHeartbeats 1000000 in
set_option maxRecDepth 20000 in
theorem drawGreatestFlow_any (v : Value) (n : Nat) (w : World) (h : ArgBytes w v n) : Calls Try.prog 14 #[v] w (DrawnEnds2 w) := by
  have bx0 := Box2.new w (.int .i64 0) (.slice none 0 0) 25
  go_enter Try.func14, Try.ntmps14
  go_wp2_with fail
  refine (l20Open_any v n _ (h.keep (by (repeat (first | (with_reducible assumption) | (with_reducible exact Below.refl _ _) | ((with_reducible refine Below.alloc ?_ ?hsz _); (case hsz => (first | omega | (simp; done) | (simp; omega) | (simp at *; omega)))) | ((with_reducible refine Below.setCell ?_ ?hsz _); (case hsz => (first | omega | (simp; done) | (simp; omega) | (simp at *; omega)))) | (with_reducible refine Below.drew ?_) | (with_reducible refine below_drewN ?_ _) | ((with_reducible refine Below.trans ?_ (Below.mono (by with_reducible assumption) ?hsz)); (case hsz => (first | omega | (simp; done) | (simp; omega) | (simp at *; omega))))))))).mono ?_
  rintro e w1 ⟨A, m, c, rfl, hr1, hb1, hz1⟩
  have bx1 := bx0.keep (hb1.mono (by simp))
  rw [World.size_alloc] at hr1 hz1
  have hgo : Below w.heap.size w w1 := by (repeat (first | (with_reducible assumption) | (with_reducible exact Below.refl _ _) | ((with_reducible refine Below.alloc ?_ ?hsz _); (case hsz => (first | omega | (simp; done) | (simp; omega) | (simp at *; omega)))) | ((with_reducible refine Below.setCell ?_ ?hsz _); (case hsz => (first | omega | (simp; done) | (simp; omega) | (simp at *; omega)))) | (with_reducible refine Below.drew ?_) | (with_reducible refine below_drewN ?_ _) | ((with_reducible refine Below.trans ?_ (Below.mono (by with_reducible assumption) ?hsz)); (case hsz => (first | omega | (simp; done) | (simp; omega) | (simp at *; omega))))))
  go_wp2_with fail
  with_reducible refine (l20Free_any 12 (w.heap.size + 1) m c 0 A _ hr1 (by omega) (by omega) (by omega)).mono ?_
  rintro e w2 ⟨z, ps, u, i, j, rfl, hp2, hr2, hg2, hl8, hzl, hzh, hi0, hj0, hiz⟩
  have bx2 := bx1.grown hg2 (by simp)
  have hs2 := hg2.size
  have hb2 : Below w.heap.size w w2 := hgo.trans (below_grow hg2 (by omega) (fun q hq => by injection hq with hq; omega))
  obtain ⟨PA, pc, rfl, hc1, hc2, hsm, -⟩ := hp2.form
  obtain ⟨bs, b0, b1, b2, b3⟩ := id bx2
  go_wp2
  refine bodyPost_ret (v := .tuple #[.agg #[.int .i64 z, .slice PA ps.length pc], .int .i64 i, .int .i64 j]) (by simp [results, Try.results14, go_sem, b0, b1]) rfl ⟨z, ps, _, i, j, rfl, ?_, ?_, hl8, hzl, hzh, hi0, hj0, hiz⟩
  · refine Pipes.mono (b := w1.heap.size) ?_ (by omega)
    (repeat (first | (with_reducible assumption) | ((with_reducible refine Pipes.setLow ?_ ?hsz); (case hsz => (first | omega | (simp; done) | (simp; omega) | (simp at *; omega)))) | (with_reducible refine Pipes.alloc' ?_ _) | (with_reducible refine Pipes.drew' ?_) | (with_reducible refine Pipes.drewN' ?_ _) | ((with_reducible refine Pipes.keep ?_ (by with_reducible assumption)))))
  · (repeat (first | (with_reducible assumption) | (with_reducible exact Below.refl _ _) | ((with_reducible refine Below.alloc ?_ ?hsz _); (case hsz => (first | omega | (simp; done) | (simp; omega) | (simp at *; omega)))) | ((with_reducible refine Below.setCell ?_ ?hsz _); (case hsz => (first | omega | (simp; done) | (simp; omega) | (simp at *; omega)))) | (with_reducible refine Below.drew ?_) | (with_reducible refine below_drewN ?_ _) | ((with_reducible refine Below.trans ?_ (Below.mono (by with_reducible assumption) ?hsz)); (case hsz => (first | omega | (simp; done) | (simp; omega) | (simp at *; omega))))))

set_option maxHeartbeats 1000000 in
set_option maxRecDepth 20000 in
theorem drawGreatestValue_any (v : Value) (n : Nat) (w : World) (h : ArgBytes w v n) : Calls Try.prog 27 #[v] w (DrawnEnds2 w) := by
  have bx0 := Box2.new w (.int .i64 0) (.slice none 0 0) 25
  go_enter Try.func27, Try.ntmps27
  go_wp2_with fail
  refine (l20Open_any v n _ (h.keep (by (repeat (first | (with_reducible assumption) | (with_reducible exact Below.refl _ _) | ((with_reducible refine Below.alloc ?_ ?hsz _); (case hsz => (first | omega | (simp; done) | (simp; omega) | (simp at *; omega)))) | ((with_reducible refine Below.setCell ?_ ?hsz _); (case hsz => (first | omega | (simp; done) | (simp; omega) | (simp at *; omega)))) | (with_reducible refine Below.drew ?_) | (with_reducible refine below_drewN ?_ _) | ((with_reducible refine Below.trans ?_ (Below.mono (by with_reducible assumption) ?hsz)); (case hsz => (first | omega | (simp; done) | (simp; omega) | (simp at *; omega))))))))).mono ?_
  rintro e w1 ⟨A, m, c, rfl, hr1, hb1, hz1⟩
  have bx1 := bx0.keep (hb1.mono (by simp))
  rw [World.size_alloc] at hr1 hz1
  have hgo : Below w.heap.size w w1 := by (repeat (first | (with_reducible assumption) | (with_reducible exact Below.refl _ _) | ((with_reducible refine Below.alloc ?_ ?hsz _); (case hsz => (first | omega | (simp; done) | (simp; omega) | (simp at *; omega)))) | ((with_reducible refine Below.setCell ?_ ?hsz _); (case hsz => (first | omega | (simp; done) | (simp; omega) | (simp at *; omega)))) | (with_reducible refine Below.drew ?_) | (with_reducible refine below_drewN ?_ _) | ((with_reducible refine Below.trans ?_ (Below.mono (by with_reducible assumption) ?hsz)); (case hsz => (first | omega | (simp; done) | (simp; omega) | (simp at *; omega))))))
  go_wp2_with fail
  with_reducible refine (l20Free_any 12 (w.heap.size + 1) m c 0 A _ hr1 (by omega) (by omega) (by omega)).mono ?_
  rintro e w2 ⟨z, ps, u, i, j, rfl, hp2, hr2, hg2, hl8, hzl, hzh, hi0, hj0, hiz⟩
  have bx2 := bx1.grown hg2 (by simp)
  have hs2 := hg2.size
  have hb2 : Below w.heap.size w w2 := hgo.trans (below_grow hg2 (by omega) (fun q hq => by injection hq with hq; omega))
  obtain ⟨PA, pc, rfl, hc1, hc2, hsm, -⟩ := hp2.form
  obtain ⟨bs, b0, b1, b2, b3⟩ := id bx2
  go_wp2
  refine bodyPost_ret (v := .tuple #[.agg #[.int .i64 z, .slice PA ps.length pc], .int .i64 i, .int .i64 j]) (by simp [results, Try.results27, go_sem, b0, b1]) rfl ⟨z, ps, _, i, j, rfl, ?_, ?_, hl8, hzl, hzh, hi0, hj0, hiz⟩
  · refine Pipes.mono (b := w1.heap.size) ?_ (by omega)
    (repeat (first | (with_reducible assumption) | ((with_reducible refine Pipes.setLow ?_ ?hsz); (case hsz => (first | omega | (simp; done) | (simp; omega) | (simp at *; omega)))) | (with_reducible refine Pipes.alloc' ?_ _) | (with_reducible refine Pipes.drew' ?_) | (with_reducible refine Pipes.drewN' ?_ _) | ((with_reducible refine Pipes.keep ?_ (by with_reducible assumption)))))
  · (repeat (first | (with_reducible assumption) | (with_reducible exact Below.refl _ _) | ((with_reducible refine Below.alloc ?_ ?hsz _); (case hsz => (first | omega | (simp; done) | (simp; omega) | (simp at *; omega)))) | ((with_reducible refine Below.setCell ?_ ?hsz _); (case hsz => (first | omega | (simp; done) | (simp; omega) | (simp at *; omega)))) | (with_reducible refine Below.drew ?_) | (with_reducible refine below_drewN ?_ _) | ((with_reducible refine Below.trans ?_ (Below.mono (by with_reducible assumption) ?hsz)); (case hsz => (first | omega | (simp; done) | (simp; omega) | (simp at *; omega))))))

set_option maxHeartbeats 1000000 in
set_option maxRecDepth 20000 in
theorem drawReachedFrom_any (v : Value) (n : Nat) (w : World) (h : ArgBytes w v n) : Calls Try.prog 32 #[v] w (DrawnReached w) := by
  have bx0 := Box2.new w (.int .i64 0) (.slice none 0 0) 25
  go_enter Try.func32, Try.ntmps32
  go_wp2_with fail
  refine (l20Open_any v n _ (h.keep (by (repeat (first | (with_reducible assumption) | (with_reducible exact Below.refl _ _) | ((with_reducible refine Below.alloc ?_ ?hsz _); (case hsz => (first | omega | (simp; done) | (simp; omega) | (simp at *; omega)))) | ((with_reducible refine Below.setCell ?_ ?hsz _); (case hsz => (first | omega | (simp; done) | (simp; omega) | (simp at *; omega)))) | (with_reducible refine Below.drew ?_) | (with_reducible refine below_drewN ?_ _) | ((with_reducible refine Below.trans ?_ (Below.mono (by with_reducible assumption) ?hsz)); (case hsz => (first | omega | (simp; done) | (simp; omega) | (simp at *; omega))))))))).mono ?_
  rintro e w1 ⟨A, m, c, rfl, hr1, hb1, hz1⟩
  have bx1 := bx0.keep (hb1.mono (by simp))
  rw [World.size_alloc] at hr1 hz1
  have hgo : Below w.heap.size w w1 := by (repeat (first | (with_reducible assumption) | (with_reducible exact Below.refl _ _) | ((with_reducible refine Below.alloc ?_ ?hsz _); (case hsz => (first | omega | (simp; done) | (simp; omega) | (simp at *; omega)))) | ((with_reducible refine Below.setCell ?_ ?hsz _); (case hsz => (first | omega | (simp; done) | (simp; omega) | (simp at *; omega)))) | (with_reducible refine Below.drew ?_) | (with_reducible refine below_drewN ?_ _) | ((with_reducible refine Below.trans ?_ (Below.mono (by with_reducible assumption) ?hsz)); (case hsz => (first | omega | (simp; done) | (simp; omega) | (simp at *; omega))))))
  go_wp2_with fail
  with_reducible refine (l20Pushed_any (w.heap.size + 1) m c 0 A _ hr1 (by omega)).mono ?_
  rintro e w2 ⟨z, ps, u, xs, r, i, j, rfl, hp2, hx2, hlen, hr2, hg2, hl8, hzl, hzh, hi0, hj0, hiz⟩
  have bx2 := bx1.grown hg2 (by simp)
  have hs2 := hg2.size
  have hb2 : Below w.heap.size w w2 := hgo.trans (below_grow hg2 (by omega) (fun q hq => by injection hq with hq; omega))
  obtain ⟨PA, pc, rfl, hc1, hc2, hsm, -⟩ := hp2.form
  obtain ⟨XA, xc, rfl, -, -, -, -⟩ := hx2.form
  obtain ⟨bs, b0, b1, b2, b3⟩ := id bx2
  obtain ⟨M, hM⟩ : ∃ M, xs.length = M := ⟨_, rfl⟩
  have HM := Lib.hid hlen
  rw [hM] at hx2 ⊢
  clear hlen hM
  go_wp2
  refine bodyPost_ret (v := .tuple #[.agg #[.int .i64 z, .slice PA ps.length pc], .slice XA M xc, .int .i64 i]) (by simp [results, Try.results32, go_sem, b0, b1, World.cell?_alloc_lt, bs]) rfl ⟨z, ps, _, xs, _, i, rfl, ?_, ?_, HM.out, ?_, hl8, hzl, hzh, hi0, hiz⟩
  · refine Pipes.mono (b := w1.heap.size) ?_ (by omega)
    (repeat (first | (with_reducible assumption) | ((with_reducible refine Pipes.setLow ?_ ?hsz); (case hsz => (first | omega | (simp; done) | (simp; omega) | (simp at *; omega)))) | (with_reducible refine Pipes.alloc' ?_ _) | (with_reducible refine Pipes.drew' ?_) | (with_reducible refine Pipes.drewN' ?_ _) | ((with_reducible refine Pipes.keep ?_ (by with_reducible assumption)))))
  · refine Ints.mono (b := w1.heap.size) ?_ (by omega)
    (repeat (first | (with_reducible assumption) | ((with_reducible refine Ints.setLow ?_ ?hsz); (case hsz => (first | omega | (simp; done) | (simp; omega) | (simp at *; omega)))) | (with_reducible refine Ints.alloc' ?_ _) | (with_reducible refine Ints.drew' ?_) | (with_reducible refine Ints.drewN' ?_ _) | ((with_reducible refine Ints.keep ?_ (by with_reducible assumption)))))
  · (repeat (first | (with_reducible assumption) | (with_reducible exact Below.refl _ _) | ((with_reducible refine Below.alloc ?_ ?hsz _); (case hsz => (first | omega | (simp; done) | (simp; omega) | (simp at *; omega)))) | ((with_reducible refine Below.setCell ?_ ?hsz _); (case hsz => (first | omega | (simp; done) | (simp; omega) | (simp at *; omega)))) | (with_reducible refine Below.drew ?_) | (with_reducible refine below_drewN ?_ _) | ((with_reducible refine Below.trans ?_ (Below.mono (by with_reducible assumption) ?hsz)); (case hsz => (first | omega | (simp; done) | (simp; omega) | (simp at *; omega))))))

end Go.Proofs.Ytobbeofibkpbaaa
