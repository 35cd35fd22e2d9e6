/- Contracts of the draws: a net. -/
import Derived.Test.YtmgpekdhcghabaaGreatD1
import Derived.IntWalk
import Derived.Deep.DeepCutAuto
import Derived.Test.YtmgpekdhcghabaaGreatGR16
namespace Go.Proofs.YtmgpekdhcghabaaGreat
open Go.RowKit

theorem rem_in {y z : Int} (h1 : 2 ≤ z) (h2 : z ≤ 5) : IntKind.i64.wrap (y % z) = y % z := by
  have := Int.emod_nonneg y (show z ≠ 0 by omega)
  have := Int.emod_lt_of_pos y (show 0 < z by omega)
  exact IntWalk.i64_in _ (by omega)
theorem Rd.low {w w' : World} {rg m c K : Nat} {A : Option Addr} (h : Rd w rg A m c K) (hb : Below (rg + 1) w w') : Rd w' rg A m c K := by
  obtain ⟨h1, h2, h3, ⟨p, h4, h5⟩, h6, h7, h8, h9⟩ := h
  refine ⟨Nat.lt_of_lt_of_le h1 hb.size, (hb.cell (p := ⟨rg, _, none⟩) (Nat.lt_succ_self _)).trans h2, (hb.frozen (p := ⟨rg, _, none⟩) (Nat.lt_succ_self _)).trans h3, ⟨p, (hb.cell (p := ⟨rg, _, none⟩) (Nat.lt_succ_self _)).trans h4, h5⟩, h6, h7, h8, fun k hk => ?_⟩
  obtain ⟨g, o, x, hA, hg, hc, hx⟩ := h9 k hk
  exact ⟨g, o, x, hA, hg, (hb.cell (p := ⟨g, _, none⟩) (Nat.lt_succ_of_lt hg)).trans hc, hx⟩

/-- a drawn pipe's least and most amounts are small -/
def bdP (p : Pp) : Prop := 0 ≤ p.le ∧ p.le ≤ 4 ∧ 0 ≤ p.mo ∧ p.mo ≤ 4
def BdL (ps : List Pp) : Prop := ∀ p ∈ ps, bdP p
instance (p : Pp) : Decidable (bdP p) := by unfold bdP; infer_instance
theorem BdL.nil : BdL [] := fun _ h => by cases h
theorem BdL.snoc {ps : List Pp} {q : Pp} (h : BdL ps) (hq : bdP q) : BdL (ps ++ [q]) := fun p hp => by
  rcases List.mem_append.1 hp with hp | hp
  · exact h p hp
  · rw [List.mem_singleton.1 hp]; exact hq
theorem lv_bd {a b m lv : Int} (h : RowKit.wrap64 (a * (b / 3)) = lv) (a0 : 0 ≤ a) (a1 : a ≤ m) (m4 : m ≤ 4) (b0 : 0 ≤ b) (b1 : b < 4) : 0 ≤ lv ∧ lv ≤ 4 := by
  have hb : b / 3 = 0 ∨ b / 3 = 1 := by omega
  rcases hb with hb | hb
  · rw [hb, Int.mul_zero, IntWalk.wrap64_in _ (by omega)] at h
    omega
  · rw [hb, Int.mul_one, IntWalk.wrap64_in _ (by omega)] at h
    omega

set_option maxHeartbeats 4000000 in
set_option maxRecDepth 20000 in
theorem l20Net_bd (n : Int) (rg m c K : Nat) (A : Option Addr) (w : World) (h : Rd w rg A m c K) (hK : K ≤ 50000) (h1 : 1 ≤ n) (h2 : n ≤ 1000) :
    Calls Tryz.prog 56 #[.pointer (some ⟨rg, 0, none⟩), .int .i64 n] w fun e w' => ∃ (z : Int) (ps : List Pp) (v : Value), e = .returned (.agg #[.int .i64 z, v]) ∧ Pipes w' w.heap.size v ps ∧ Rd w' rg A m c (K + 100) ∧ w.grownBy w' (some rg) ∧ ps.length ≤ 8 ∧ 1 ≤ z ∧ z ≤ 6 ∧ BdL ps := by
  have hrg := h.1
  go_enter Tryz.func56, Tryz.ntmps56
  go_wp2_with fail
  refine (pick_any 4 rg m c K A _ (h.keep (by (repeat (first | (with_reducible assumption) | (with_reducible exact Below.refl _ _) | ((with_reducible refine Below.alloc ?_ ?hsz _); (case hsz => (first | omega | (simp; done) | (simp; omega) | (simp at *; omega)))) | ((with_reducible refine Below.setCell ?_ ?hsz _); (case hsz => (first | omega | (simp; done) | (simp; omega) | (simp at *; omega)))) | (with_reducible refine Below.drew ?_) | (with_reducible refine below_drewN ?_ _) | ((with_reducible refine Below.trans ?_ (Below.mono (by with_reducible assumption) ?hsz)); (case hsz => (first | omega | (simp; done) | (simp; omega) | (simp at *; omega)))))))) (by omega) (by omega) (by omega)).mono ?_
  rintro e w1 ⟨x, rfl, x0, x1, hr1, hg1, hz1⟩
  simp at hz1
  have zz1 : 2 ≤ 2 + x := by omega
  have zz2 : 2 + x ≤ 5 := by omega
  have bx1 : Box2 w1 w.heap.size (.int .i64 0) (.slice none 0 0) := (Box2.new w _ _ 25).grown hg1 (by simp; omega)
  go_wp2_with fail
  refine (pick_any 8 rg m c (K + 1) A _ (hr1.keep (by (repeat (first | (with_reducible assumption) | (with_reducible exact Below.refl _ _) | ((with_reducible refine Below.alloc ?_ ?hsz _); (case hsz => (first | omega | (simp; done) | (simp; omega) | (simp at *; omega)))) | ((with_reducible refine Below.setCell ?_ ?hsz _); (case hsz => (first | omega | (simp; done) | (simp; omega) | (simp at *; omega)))) | (with_reducible refine Below.drew ?_) | (with_reducible refine below_drewN ?_ _) | ((with_reducible refine Below.trans ?_ (Below.mono (by with_reducible assumption) ?hsz)); (case hsz => (first | omega | (simp; done) | (simp; omega) | (simp at *; omega)))))))) (by omega) (by omega) (by omega)).mono ?_
  rintro e w2 ⟨y, rfl, y0, y1, hr2, hg2, hz2⟩
  have bx2 : Box2 w2 w.heap.size (.int .i64 0) (.slice none 0 0) := (bx1.keep (by (repeat (first | (with_reducible assumption) | (with_reducible exact Below.refl _ _) | ((with_reducible refine Below.alloc ?_ ?hsz _); (case hsz => (first | omega | (simp; done) | (simp; omega) | (simp at *; omega)))) | ((with_reducible refine Below.setCell ?_ ?hsz _); (case hsz => (first | omega | (simp; done) | (simp; omega) | (simp at *; omega)))) | (with_reducible refine Below.drew ?_) | (with_reducible refine below_drewN ?_ _) | ((with_reducible refine Below.trans ?_ (Below.mono (by with_reducible assumption) ?hsz)); (case hsz => (first | omega | (simp; done) | (simp; omega) | (simp at *; omega)))))))).grown hg2 (by simp; omega)
  have nb2 : Box2 w2 (w.heap.size + 1) (.int .i64 (2 + x)) (.slice none 0 0) := by
    have h := Box2.new w1 (.int .i64 (2 + x)) (.slice none 0 0) 25
    rw [hz1] at h
    exact h.grown hg2 (by simp; omega)
  have hgw : w.grownBy w2 (some rg) := grow_more (grow_alloc (grow_more (grow_alloc (grow_refl w _) _) hg1 (fun q hq => .inr hq)) _) hg2 (fun q hq => .inr hq)
  have hs2 : w2.heap.size = w.heap.size + 2 := by simp at hz2; omega
  obtain ⟨i0, hi0, hz0, hz1', hz2'⟩ := info_parts pipe_info
  go_wp2_with fail
  generalize hzz : (2 : Int) + x = z at *
  clear hzz x0 x1
  go_loopw [6] (fun t wr => ∃ (j k : Nat) (A1 : Option Addr) (k1 : Nat) (qs : List Pp), t = .int .i64 j ∧ k + j ≤ 7 ∧ qs.length = k ∧ wr.ownsRow (w.heap.size + 2) 35 5 (.slice A1 k k1) k (qs.flatMap Pp.cells) ∧
      Box2 wr w.heap.size (.int .i64 0) (.slice none 0 0) ∧ Box2 wr (w.heap.size + 1) (.int .i64 z) (.slice A1 k k1) ∧ Rd wr rg A m c (K + 2 + 6 * k) ∧ w.grownBy wr (some rg) ∧ BdL qs) (fun t _ => (intOf t).toNat)
  case atStart => exact ⟨y.toNat, 0, none, 0, [], by rw [Int.toNat_of_nonneg y0], by omega, rfl, World.ownsRow_nil _ _ _ 5, bx2, nb2, hr2, hgw, BdL.nil⟩
  case round =>
    obtain ⟨j, k, A1, k1, qs, rfl, hjk, hql, hown, bx, nb, hr, hg, hbd⟩ := hrel
    by_cases hj : 0 < j
    · obtain ⟨ns, n0, n1, n2, n3⟩ := id nb
      go_wp2_with fail
      refine (pick_any z rg m c (K + 2 + 6 * k) A _ (hr.keep (by (repeat (first | (with_reducible assumption) | (with_reducible exact Below.refl _ _) | ((with_reducible refine Below.alloc ?_ ?hsz _); (case hsz => (first | omega | (simp; done) | (simp; omega) | (simp at *; omega)))) | ((with_reducible refine Below.setCell ?_ ?hsz _); (case hsz => (first | omega | (simp; done) | (simp; omega) | (simp at *; omega)))) | (with_reducible refine Below.drew ?_) | (with_reducible refine below_drewN ?_ _) | ((with_reducible refine Below.trans ?_ (Below.mono (by with_reducible assumption) ?hsz)); (case hsz => (first | omega | (simp; done) | (simp; omega) | (simp at *; omega)))))))) (by omega) (by omega) (by omega)).mono ?_
      rintro e w3 ⟨a, rfl, a0, a1, hr3, hg3, hz3⟩
      have nb3 := nb.grown hg3 (by simp; omega)
      have bx3 := bx.grown hg3 (by simp; omega)
      obtain ⟨ns3, m0, m1, m2, m3⟩ := id nb3
      clear n0 n1 n2 n3
      have hg3' : wr.grownBy w3 (some rg) := hg3
      have hown3 := own_grow hown hg3 (fun q hq => by injection hq with hq; omega)
      go_upto_region 6 with fail
      go_cut [8] (fun t wx => ∃ q : Pp, t = .pointer (some ⟨wr.heap.size, 0, none⟩) ∧ Box5 wx wr.heap.size q ∧ q.le = 0 ∧ 0 ≤ q.mo ∧ q.mo < 5 ∧ wr.grownBy wx (some rg) ∧ Rd wx rg A m c (K + 2 + 6 * k + 1 + 1 + 1 + 1) ∧ wx.heap.size = wr.heap.size + 1)
      case rest =>
        obtain ⟨q, rfl, b5, hq0, hq1, hq2, hgx, hrx, hzx⟩ := hcut
        have hN : some (w.heap.size + 1) ≠ some rg := by intro h; injection h with h; omega
        have hN0 : some w.heap.size ≠ some rg := by intro h; injection h with h; omega
        have hP : some wr.heap.size ≠ some rg := by intro h; injection h with h; have := hr.1; omega
        obtain ⟨p0, c0, c1, c2, c3, c4, cf⟩ := id b5
        go_wp2_with fail
        refine (pick_any (q.mo + 1) rg m c _ A _ hrx (by omega) (by omega) (by omega)).mono ?_
        rintro e w5 ⟨x5, rfl, x50, x51, hr5, hg5, hz5⟩
        clear c0 c1 c2 c3 c4 cf
        go_wp2_with fail
        refine (pick_any 4 rg m c _ A _ hr5 (by omega) (by omega) (by omega)).mono ?_
        rintro e w6 ⟨x6, rfl, x60, x61, hr6, hg6, hz6⟩
        have b6 := (b5.grown hg5 hP).grown hg6 hP
        have hg7 : wr.grownBy w6 (some rg) := grow_more (grow_more hgx hg5 (fun q hq => .inr hq)) hg6 (fun q hq => .inr hq)
        have nb6 := nb.grown hg7 hN
        have bx6 := bx.grown hg7 hN0
        have hown6 := own_grow hown hg7 (fun q hq => by injection hq with hq; omega)
        obtain ⟨p0, c0, c1, c2, c3, c4, cf⟩ := id b6
        obtain ⟨ns6, n0, n1, n2, n3⟩ := id nb6
        have cf2 := cf 2
        generalize hlv : RowKit.wrap64 (x5 * (x6 / 3)) = lv at *
        have hlb := lv_bd hlv x50 (show x5 ≤ q.mo by omega) (by omega) x60 x61
        have hoP : (Value.slice A1 k k1).ownBlock ≠ some wr.heap.size := by
          intro h
          have := (hown.lt _ h).2
          omega
        have hoN : some (w.heap.size + 1) ≠ (Value.slice A1 k k1).ownBlock := by
          intro h
          have := (hown.lt _ h.symm).1
          omega
        have hownW := ownsRow_setCell_other hown6 (a := ⟨wr.heap.size, 2, none⟩) hoP (.int .i64 lv)
        have nbW := nb6.far (p := ⟨wr.heap.size, 2, none⟩) (by simp; omega) (.int .i64 lv)
        have bxW := bx6.far (p := ⟨wr.heap.size, 2, none⟩) (by simp; omega) (.int .i64 lv)
        have hrW := hr6.set (p := ⟨wr.heap.size, 2, none⟩) hr.1 (.int .i64 lv)
        have hgW : wr.grownBy (w6.setCell ⟨wr.heap.size, 2, none⟩ (.int .i64 lv)) (some rg) := grow_set hg7 (.inl (Nat.le_refl _)) _
        have hsW : (w6.setCell ⟨wr.heap.size, 2, none⟩ (.int .i64 lv)).heap.size = wr.heap.size + 1 := by simp; omega
        go_wp2_with (first
          | (at_builtin
             go_must (refine wpList_append_lies _ rfl _ _ 23 rfl (w.heap.size + 2) 35 i0 _ 5 40 Tryz.underlying23 hi0 hz0 hz1' hz2' rfl (by omega) _ k _ rfl (hownW.alloc _) ⟨wr.heap.size + 1, 0, none⟩ 1 1 (Pp.cells ⟨q.fr, q.to, lv, q.mo, q.co⟩) rfl rfl (World.news_of_block (cs := #[.int .i64 q.fr, .int .i64 q.to, .int .i64 lv, .int .i64 q.mo, .int .i64 q.co]) (t := 35) (fr := (0, 0)) (by rw [← hsW]; exact heap_alloc_new _ _)) (by simp [Pp.cells, Value.oneCell']) (by omega) (by unfold maxLen; omega) (by omega) (by simp; omega) _ rfl ?_)
             intro g2 k2 w7 hown7 hgr7 hat7 hlt7
             have nb7 := (nbW.keep ((Below.refl _ _).alloc (Nat.le_refl _) _)).grown hgr7 hoN
             obtain ⟨ns7, y0, y1, y2, y3⟩ := id nb7))
        have hrow : ∀ q, (Value.slice A1 k k1).ownBlock = some q → w.heap.size + 2 ≤ q := fun q hq => (hown.lt q hq).1
        have hown8 : w7.ownsRow (w.heap.size + 2) 35 5 (.slice (some ⟨g2, 0, none⟩) (k + 1) k2) (k + 1) ((qs ++ [(⟨q.fr, q.to, lv, q.mo, q.co⟩ : Pp)]).flatMap Pp.cells) := by
          rw [List.flatMap_append]
          simpa using hown7
        have bx7 := (bxW.keep ((Below.refl _ _).alloc (Nat.le_refl _) (.cells #[.int .i64 q.fr, .int .i64 q.to, .int .i64 lv, .int .i64 q.mo, .int .i64 q.co] 35))).grown hgr7 (by intro h; have := hrow _ h.symm; omega)
        have hr7 := (hrW.keep ((Below.refl _ _).alloc (Nat.le_refl _) (.cells #[.int .i64 q.fr, .int .i64 q.to, .int .i64 lv, .int .i64 q.mo, .int .i64 q.co] 35))).low (below_grow hgr7 (by simp; omega) (fun q hq => by have := hrow q hq; omega))
        have hgF : w.grownBy w7 (some rg) := grow_more (grow_alloc (grow_more hg hgW (fun q hq => .inr hq)) _) hgr7 (fun q hq => .inl (by have := hrow q hq; omega))
        go_roundw
        case rel => exact ⟨j - 1, k + 1, some ⟨g2, 0, none⟩, k2, qs ++ [⟨q.fr, q.to, lv, q.mo, q.co⟩], by congr 1; omega, by omega, by rw [List.length_append, hql]; rfl, ownsRow_setCell_below hown8 (by simp) _, bx7.far (by simp) _, nb7.set1 _, (hr7.set (by simp; omega) _).more (by omega), grow_set hgF (.inl (by simp)) _, hbd.snoc ⟨hlb.1, hlb.2, hq1, by show q.mo ≤ 4; omega⟩⟩
        case measure => simp [intOf]; omega
      case first =>
        clear hr hr1 hr2 hg1 hg2 bx1 bx2 nb2 bx nb
        have e0 : (z == 0) = false := by rw [beq_eq_false_iff_ne]; omega
        have e1 : 1 ≤ z - 1 := by omega
        have e2 : z - 1 ≤ 1000000 := by omega
        have s0 : IntKind.i64.wrap (z - 1) = z - 1 := IntWalk.i64_in _ (by omega)
        have s1 : IntKind.i64.wrap (a + 1) = a + 1 := IntWalk.i64_in _ (by omega)
        have l3 : w.heap.size + 1 < w3.heap.size := ns3
        have hne : w.heap.size + 1 ≠ rg := by omega
        have ns1 : w.heap.size < wr.heap.size := by omega
        clear l3
        have nr3 : wr.heap.size ≠ rg := by rw [← hz3]; exact Nat.ne_of_gt hr3.1
        have nrl : rg < wr.heap.size := by rw [← hz3]; exact hr3.1
        have e00 : ¬ z = 0 := by omega
        go_region_held3 (fun w' => w'.cell? ⟨w.heap.size + 1, 0, none⟩ = some (.int .i64 z))
          (first | go_keep | (go_simp; done))
          (first
            | (go_at_call 57; (with_reducible refine (pick_any _ rg m c _ A _ (hr4.keep (by (repeat (first | (with_reducible assumption) | (with_reducible exact Below.refl _ _) | ((with_reducible refine Below.alloc ?_ ?hsz _); (case hsz => (first | omega | (simp; done) | (simp; omega) | (simp at *; omega)))) | ((with_reducible refine Below.setCell ?_ ?hsz _); (case hsz => (first | omega | (simp; done) | (simp; omega) | (simp at *; omega)))) | (with_reducible refine Below.drew ?_) | (with_reducible refine below_drewN ?_ _) | ((with_reducible refine Below.trans ?_ (Below.mono (by with_reducible assumption) ?hsz)); (case hsz => (first | omega | (simp; done) | (simp; omega) | (simp at *; omega)))))))) (by omega) (by first | exact e1 | decide) (by first | exact e2 | decide)).mono ?_); rintro e w4 ⟨b, rfl, b0, b1, hr4, hg4, hz4⟩; obtain ⟨hcg, hfg⟩ := gcell hg4; have s2 : IntKind.i64.wrap (b - 3) = b - 3 := IntWalk.i64_in _ (by omega))
            | (go_at_call 57; (with_reducible refine (pick_any _ rg m c _ A _ (hr3.keep (by (repeat (first | (with_reducible assumption) | (with_reducible exact Below.refl _ _) | ((with_reducible refine Below.alloc ?_ ?hsz _); (case hsz => (first | omega | (simp; done) | (simp; omega) | (simp at *; omega)))) | ((with_reducible refine Below.setCell ?_ ?hsz _); (case hsz => (first | omega | (simp; done) | (simp; omega) | (simp at *; omega)))) | (with_reducible refine Below.drew ?_) | (with_reducible refine below_drewN ?_ _) | ((with_reducible refine Below.trans ?_ (Below.mono (by with_reducible assumption) ?hsz)); (case hsz => (first | omega | (simp; done) | (simp; omega) | (simp at *; omega)))))))) (by omega) (by first | exact e1 | decide) (by first | exact e2 | decide)).mono ?_); rintro e w4 ⟨b, rfl, b0, b1, hr4, hg4, hz4⟩; obtain ⟨hcg, hfg⟩ := gcell hg4; have s2 : IntKind.i64.wrap (a + 1 + b) = a + 1 + b := IntWalk.i64_in _ (by omega); have s3 : (0 : Int) ≤ a + 1 + b := (by omega); have s4 : (a + 1 + b).tmod z = (a + 1 + b) % z := Int.tmod_eq_emod_of_nonneg s3; have s5 : IntKind.i64.wrap ((a + 1 + b) % z) = (a + 1 + b) % z := rem_in zz1 zz2))
        all_goals (go_wp2_with fail; go_meet)
        all_goals
          apply Exists.intro
          refine ⟨rfl, ?_, ?_⟩
          · first
              | (with_reducible exact Box5.new _ _ _ _ _ _ _ (by go_simp))
              | (with_reducible exact Box5.of_sets (u0 := .int .i64 0) (u1 := .int .i64 0) (u2 := .int .i64 0) (u3 := .int .i64 0) (u4 := .int .i64 0) _ _ _ _ _ (by go_simp) (by go_simp) (by go_simp) (by go_simp) (by go_simp) (by go_simp) (fun j => by go_simp))
          · refine ⟨rfl, by assumption, by assumption, ?_, ?_, ?_⟩
            · (repeat (first | (with_reducible exact grow_refl _ _) | (with_reducible assumption) | (with_reducible refine grow_drew ?_) | (with_reducible refine grow_drewN ?_ _) | (with_reducible refine grow_alloc ?_ _) | ((with_reducible refine grow_set ?_ ?hsz _); (case hsz => (left; (first | omega | (simp; done) | (simp; omega) | (simp at *; omega))))) | ((with_reducible refine grow_more ?_ (by with_reducible assumption) ?hsz); (case hsz => (intro q hq; exact .inr hq)))))
            · first
                | (with_reducible exact ((((hr4.set nrl _).set nrl _).set nrl _).set nrl _).set nrl _)
                | (with_reducible exact hr4.keep (by (repeat (first | (with_reducible assumption) | (with_reducible exact Below.refl _ _) | ((with_reducible refine Below.alloc ?_ ?hsz _); (case hsz => (first | omega | (simp; done) | (simp; omega) | (simp at *; omega)))) | ((with_reducible refine Below.setCell ?_ ?hsz _); (case hsz => (first | omega | (simp; done) | (simp; omega) | (simp at *; omega)))) | (with_reducible refine Below.drew ?_) | (with_reducible refine below_drewN ?_ _) | ((with_reducible refine Below.trans ?_ (Below.mono (by with_reducible assumption) ?hsz)); (case hsz => (first | omega | (simp; done) | (simp; omega) | (simp at *; omega))))))))
            · go_simp
    · have hN : some (w.heap.size + 1) ≠ some rg := by intro h; injection h with h; omega
      have hN0 : some w.heap.size ≠ some rg := by intro h; injection h with h; omega
      have hrg2 : ∀ q, some rg = some q → q < w.heap.size + 2 := fun q hq => by injection hq with hq; omega
      go_wp2_with fail
      refine (odd_any n rg m c _ A _ hr (by omega) h1 (by omega)).mono ?_
      rintro e w3 ⟨b, rfl, hr3, hg3, hz3⟩
      have nb3 := nb.grown hg3 hN
      have bx3 := bx.grown hg3 hN0
      have hown3 := own_grow hown hg3 hrg2
      have hgw3 := grow_more hg hg3 (fun q hq => .inr hq)
      clear hgw hg2 hg1 hr1 hr2 bx1 bx2 nb2 bx nb hown hr
      cases b with
      | false =>
        obtain ⟨ns, n0, n1, n2, n3⟩ := id nb3
        obtain ⟨bs, b0, b1, b2, b3⟩ := id bx3
        go_wp2
        refine bodyPost_ret (v := .agg #[.int .i64 z, .slice A1 k k1]) (by simp [results, Tryz.results56, go_sem, b0, b1]) rfl ⟨z, qs, _, rfl, ?_, ?_, ?_, by omega, by omega, by omega, hbd⟩
        · have hP3 : Pipes w3 (w.heap.size + 2) (.slice A1 k k1) qs := ⟨by rw [hql]; exact hown3, by unfold small; omega⟩
          exact ((hP3.setLow (by (first | omega | (simp; done) | (simp; omega) | (simp at *; omega)))).setLow (by (first | omega | (simp; done) | (simp; omega) | (simp at *; omega)))).mono (by (first | omega | (simp; done) | (simp; omega) | (simp at *; omega)))
        · exact (((hr3.set (by simp; omega) _).set (by simp; omega) _).more (by omega))
        · exact grow_set (grow_set hgw3 (.inl (Nat.le_refl _)) _) (.inl (Nat.le_refl _)) _
      | true =>
        go_wp2_with fail
        refine (pick_any 3 rg m c _ A _ hr3 (by omega) (by omega) (by omega)).mono ?_
        rintro e w4 ⟨y4, rfl, y40, y41, hr4, hg4, hz4⟩
        have nb4 := nb3.grown hg4 hN
        have bx4 := bx3.grown hg4 hN0
        have hown4 := own_grow hown3 hg4 hrg2
        have hgw4 := grow_more hgw3 hg4 (fun q hq => .inr hq)
        clear hgw3 hg hg3 nb3 bx3 hown3 hr3
        have hzz : w4.heap.size = wr.heap.size := by omega
        have hy : y4 = 0 ∨ y4 = 1 ∨ y4 = 2 := by omega
        rcases hy with rfl | rfl | rfl
        · obtain ⟨ns, n0, n1, n2, n3⟩ := id nb4
          go_wp2_with fail
          refine (pick_any 2 rg m c _ A _ (hr4.keep (by (repeat (first | (with_reducible assumption) | (with_reducible exact Below.refl _ _) | ((with_reducible refine Below.alloc ?_ ?hsz _); (case hsz => (first | omega | (simp; done) | (simp; omega) | (simp at *; omega)))) | ((with_reducible refine Below.setCell ?_ ?hsz _); (case hsz => (first | omega | (simp; done) | (simp; omega) | (simp at *; omega)))) | (with_reducible refine Below.drew ?_) | (with_reducible refine below_drewN ?_ _) | ((with_reducible refine Below.trans ?_ (Below.mono (by with_reducible assumption) ?hsz)); (case hsz => (first | omega | (simp; done) | (simp; omega) | (simp at *; omega)))))))) (by omega) (by omega) (by omega)).mono ?_
          rintro e w5 ⟨y5, rfl, y50, y51, hr5, hg5, hz5⟩
          clear n0 n1 n2 n3
          have hgw5 := grow_more (grow_alloc hgw4 (.cells #[.int .i64 1, .int .i64 6] 3)) hg5 (fun q hq => .inr hq)
          have nb5 := (nb4.keep ((Below.refl _ _).alloc (Nat.le_refl _) (.cells #[.int .i64 1, .int .i64 6] 3))).grown hg5 hN
          have bx5 := (bx4.keep ((Below.refl _ _).alloc (Nat.le_refl _) (.cells #[.int .i64 1, .int .i64 6] 3))).grown hg5 hN0
          have hown5 := own_grow (hown4.alloc (.cells #[.int .i64 1, .int .i64 6] 3)) hg5 hrg2
          have hP : some wr.heap.size ≠ some rg := by intro h; injection h with h; have := hr4.1; omega
          have k0 : w5.cell? ⟨wr.heap.size, 0, none⟩ = some (.int .i64 1) := (hg5.cell_far ⟨wr.heap.size, 0, none⟩ (by simp; omega) hP).trans (by rw [← hzz]; simp)
          have k1' : w5.cell? ⟨wr.heap.size, 1, none⟩ = some (.int .i64 6) := (hg5.cell_far ⟨wr.heap.size, 1, none⟩ (by simp; omega) hP).trans (by rw [← hzz]; simp)
          obtain ⟨ns5, n0, n1, n2, n3⟩ := id nb5
          obtain ⟨bs, b0, b1, b2, b3⟩ := id bx5
          have hy5 : y5 = 0 ∨ y5 = 1 := by omega
          rcases hy5 with rfl | rfl
          · go_wp2
            refine bodyPost_ret (v := .agg #[.int .i64 1, .slice A1 k k1]) (by simp [results, Tryz.results56, go_sem, b0, b1]) rfl ⟨1, qs, _, rfl, ?_, ?_, ?_, by omega, by omega, by omega, hbd⟩
            · have hP3 : Pipes w5 (w.heap.size + 2) (.slice A1 k k1) qs := ⟨by rw [hql]; exact hown5, by unfold small; omega⟩
              exact (((hP3.setLow (by (first | omega | (simp; done) | (simp; omega) | (simp at *; omega)))).setLow (by (first | omega | (simp; done) | (simp; omega) | (simp at *; omega)))).setLow (by (first | omega | (simp; done) | (simp; omega) | (simp at *; omega)))).mono (by (first | omega | (simp; done) | (simp; omega) | (simp at *; omega)))
            · exact ((((hr5.set (by simp; omega) _).set (by simp; omega) _).set (by simp; omega) _).more (by omega))
            · exact grow_set (grow_set (grow_set hgw5 (.inl (by simp)) _) (.inl (Nat.le_refl _)) _) (.inl (Nat.le_refl _)) _
          · go_wp2
            refine bodyPost_ret (v := .agg #[.int .i64 6, .slice A1 k k1]) (by simp [results, Tryz.results56, go_sem, b0, b1]) rfl ⟨6, qs, _, rfl, ?_, ?_, ?_, by omega, by omega, by omega, hbd⟩
            · have hP3 : Pipes w5 (w.heap.size + 2) (.slice A1 k k1) qs := ⟨by rw [hql]; exact hown5, by unfold small; omega⟩
              exact (((hP3.setLow (by (first | omega | (simp; done) | (simp; omega) | (simp at *; omega)))).setLow (by (first | omega | (simp; done) | (simp; omega) | (simp at *; omega)))).setLow (by (first | omega | (simp; done) | (simp; omega) | (simp at *; omega)))).mono (by (first | omega | (simp; done) | (simp; omega) | (simp at *; omega)))
            · exact ((((hr5.set (by simp; omega) _).set (by simp; omega) _).set (by simp; omega) _).more (by omega))
            · exact grow_set (grow_set (grow_set hgw5 (.inl (by simp)) _) (.inl (Nat.le_refl _)) _) (.inl (Nat.le_refl _)) _
        · by_cases hk9 : True
          · have hrow : ∀ q, (Value.slice A1 k k1).ownBlock = some q → w.heap.size + 2 ≤ q := fun q hq => (hown4.lt q hq).1
            have hoN : some (w.heap.size + 1) ≠ (Value.slice A1 k k1).ownBlock := by intro h; have := hrow _ h.symm; omega
            obtain ⟨ns, n0, n1, n2, n3⟩ := id nb4
            go_wp2_with (first
              | (at_builtin
                 go_must (refine wpList_append_lies _ rfl _ _ 23 rfl (w.heap.size + 2) 35 i0 _ 5 40 Tryz.underlying23 hi0 hz0 hz1' hz2' rfl (by omega) _ k _ rfl (hown4.alloc _) ⟨wr.heap.size, 0, none⟩ 1 1 (Pp.cells ⟨1, 1, 0, 0, 0⟩) rfl rfl (World.news_of_block (cs := (Pp.cells ⟨1, 1, 0, 0, 0⟩).toArray) (t := 35) (fr := (0, 0)) (by rw [← hzz]; exact heap_alloc_new _ _)) (by simp [Pp.cells, Value.oneCell']) (by omega) (by unfold maxLen; omega) (by omega) (by simp; omega) _ rfl ?_)
                 intro g2 k2 w7 hown7 hgr7 hat7 hlt7
                 have nb7 := (nb4.keep ((Below.refl _ _).alloc (Nat.le_refl _) _)).grown hgr7 hoN
                 have bx7 := (bx4.keep ((Below.refl _ _).alloc (Nat.le_refl _) _)).grown hgr7 (by intro h; have := hrow _ h.symm; omega)
                 obtain ⟨ns7, y0, y1, y2, y3⟩ := id nb7
                 obtain ⟨bs, b0, b1, b2, b3⟩ := id bx7))
            have hr7 := (hr4.keep ((Below.refl _ _).alloc (Nat.le_refl _) (.cells (Pp.cells ⟨1, 1, 0, 0, 0⟩).toArray 35))).low (below_grow hgr7 (by simp; omega) (fun q hq => by have := hrow q hq; omega))
            have hgF : w.grownBy w7 (some rg) := grow_more (grow_alloc hgw4 _) hgr7 (fun q hq => .inl (by have := hrow q hq; omega))
            have hown8 : w7.ownsRow (w.heap.size + 2) 35 5 (.slice (some ⟨g2, 0, none⟩) (k + 1) k2) (k + 1) ((qs ++ [(⟨1, 1, 0, 0, 0⟩ : Pp)]).flatMap Pp.cells) := by
              rw [List.flatMap_append]
              simpa using hown7
            refine bodyPost_ret (v := .agg #[.int .i64 z, .slice (some ⟨g2, 0, none⟩) (k + 1) k2]) (by simp [results, Tryz.results56, go_sem, b0, b1]) rfl ⟨z, qs ++ [(⟨1, 1, 0, 0, 0⟩ : Pp)], _, rfl, ?_, ?_, ?_, by rw [List.length_append, hql]; simp; omega, by omega, by omega, hbd.snoc (by decide)⟩
            · have hP8 : Pipes w7 (w.heap.size + 2) (.slice (some ⟨g2, 0, none⟩) (k + 1) k2) (qs ++ [(⟨1, 1, 0, 0, 0⟩ : Pp)]) := ⟨by rw [List.length_append, hql]; exact hown8, by rw [List.length_append, hql]; unfold small; simp; omega⟩
              exact (((hP8.setLow (by (first | omega | (simp; done) | (simp; omega) | (simp at *; omega)))).setLow (by (first | omega | (simp; done) | (simp; omega) | (simp at *; omega)))).setLow (by (first | omega | (simp; done) | (simp; omega) | (simp at *; omega)))).mono (by (first | omega | (simp; done) | (simp; omega) | (simp at *; omega)))
            · exact ((((hr7.set (by simp; omega) _).set (by simp; omega) _).set (by simp; omega) _).more (by omega))
            · exact grow_set (grow_set (grow_set hgF (.inl (by simp)) _) (.inl (Nat.le_refl _)) _) (.inl (Nat.le_refl _)) _
          · exact absurd trivial hk9
        · by_cases hk9 : True
          · have hrow : ∀ q, (Value.slice A1 k k1).ownBlock = some q → w.heap.size + 2 ≤ q := fun q hq => (hown4.lt q hq).1
            have hoN : some (w.heap.size + 1) ≠ (Value.slice A1 k k1).ownBlock := by intro h; have := hrow _ h.symm; omega
            obtain ⟨ns, n0, n1, n2, n3⟩ := id nb4
            go_wp2_with (first
              | (at_builtin
                 go_must (refine wpList_append_lies _ rfl _ _ 23 rfl (w.heap.size + 2) 35 i0 _ 5 40 Tryz.underlying23 hi0 hz0 hz1' hz2' rfl (by omega) _ k _ rfl (hown4.alloc _) ⟨wr.heap.size, 0, none⟩ 1 1 (Pp.cells ⟨0, 1, 2, 1, 0⟩) rfl rfl (World.news_of_block (cs := (Pp.cells ⟨0, 1, 2, 1, 0⟩).toArray) (t := 35) (fr := (0, 0)) (by rw [← hzz]; exact heap_alloc_new _ _)) (by simp [Pp.cells, Value.oneCell']) (by omega) (by unfold maxLen; omega) (by omega) (by simp; omega) _ rfl ?_)
                 intro g2 k2 w7 hown7 hgr7 hat7 hlt7
                 have nb7 := (nb4.keep ((Below.refl _ _).alloc (Nat.le_refl _) _)).grown hgr7 hoN
                 have bx7 := (bx4.keep ((Below.refl _ _).alloc (Nat.le_refl _) _)).grown hgr7 (by intro h; have := hrow _ h.symm; omega)
                 obtain ⟨ns7, y0, y1, y2, y3⟩ := id nb7
                 obtain ⟨bs, b0, b1, b2, b3⟩ := id bx7))
            have hr7 := (hr4.keep ((Below.refl _ _).alloc (Nat.le_refl _) (.cells (Pp.cells ⟨0, 1, 2, 1, 0⟩).toArray 35))).low (below_grow hgr7 (by simp; omega) (fun q hq => by have := hrow q hq; omega))
            have hgF : w.grownBy w7 (some rg) := grow_more (grow_alloc hgw4 _) hgr7 (fun q hq => .inl (by have := hrow q hq; omega))
            have hown8 : w7.ownsRow (w.heap.size + 2) 35 5 (.slice (some ⟨g2, 0, none⟩) (k + 1) k2) (k + 1) ((qs ++ [(⟨0, 1, 2, 1, 0⟩ : Pp)]).flatMap Pp.cells) := by
              rw [List.flatMap_append]
              simpa using hown7
            refine bodyPost_ret (v := .agg #[.int .i64 z, .slice (some ⟨g2, 0, none⟩) (k + 1) k2]) (by simp [results, Tryz.results56, go_sem, b0, b1]) rfl ⟨z, qs ++ [(⟨0, 1, 2, 1, 0⟩ : Pp)], _, rfl, ?_, ?_, ?_, by rw [List.length_append, hql]; simp; omega, by omega, by omega, hbd.snoc (by decide)⟩
            · have hP8 : Pipes w7 (w.heap.size + 2) (.slice (some ⟨g2, 0, none⟩) (k + 1) k2) (qs ++ [(⟨0, 1, 2, 1, 0⟩ : Pp)]) := ⟨by rw [List.length_append, hql]; exact hown8, by rw [List.length_append, hql]; unfold small; simp; omega⟩
              exact (((hP8.setLow (by (first | omega | (simp; done) | (simp; omega) | (simp at *; omega)))).setLow (by (first | omega | (simp; done) | (simp; omega) | (simp at *; omega)))).setLow (by (first | omega | (simp; done) | (simp; omega) | (simp at *; omega)))).mono (by (first | omega | (simp; done) | (simp; omega) | (simp at *; omega)))
            · exact ((((hr7.set (by simp; omega) _).set (by simp; omega) _).set (by simp; omega) _).more (by omega))
            · exact grow_set (grow_set (grow_set hgF (.inl (by simp)) _) (.inl (Nat.le_refl _)) _) (.inl (Nat.le_refl _)) _
          · exact absurd trivial hk9

theorem l20Net_any (n : Int) (rg m c K : Nat) (A : Option Addr) (w : World) (h : Rd w rg A m c K) (hK : K ≤ 50000) (h1 : 1 ≤ n) (h2 : n ≤ 1000) :
    Calls Tryz.prog 56 #[.pointer (some ⟨rg, 0, none⟩), .int .i64 n] w fun e w' => ∃ (z : Int) (ps : List Pp) (v : Value), e = .returned (.agg #[.int .i64 z, v]) ∧ Pipes w' w.heap.size v ps ∧ Rd w' rg A m c (K + 100) ∧ w.grownBy w' (some rg) ∧ ps.length ≤ 8 ∧ 1 ≤ z ∧ z ≤ 6 :=
  (l20Net_bd n rg m c K A w h hK h1 h2).mono fun _ _ ⟨z, ps, v, q1, q2, q3, q4, q5, q6, q7, _⟩ => ⟨z, ps, v, q1, q2, q3, q4, q5, q6, q7⟩

end Go.Proofs.YtmgpekdhcghabaaGreat
