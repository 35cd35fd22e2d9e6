/- Plain facts. -/
import Derived.Test.YtphbmlephldaaaaGQ16
import Derived.Test.YtphbmlephldaaaaGQ13
import Derived.Maps.AppendAt
import Derived.Deep.RegionWith
/- Contracts of the draws: a net and a flow. -/
namespace Go.Proofs.Ytphbmlephldaaaa
open Go.RowKit

theorem cell_drew {W : World} {g o : Nat} {v : Value} (h : W.cell? ⟨g, o, none⟩ = some v) : W.drew.cell? ⟨g, o, none⟩ = some v := h
section
variable {w : World} {b : Nat} {v : Value} {ps : List Pp} {xs : List Int}
theorem Pipes.alloc' (h : Pipes w b v ps) (o : Obj) : Pipes (w.alloc o) b v ps := ⟨h.1.alloc o, h.2⟩
theorem Pipes.drew' (h : Pipes w b v ps) : Pipes w.drew b v ps := h
theorem Pipes.drewN' (h : Pipes w b v ps) (n : Nat) : Pipes (w.drewN n) b v ps := h
theorem Ints.alloc' (h : Ints w b v xs) (o : Obj) : Ints (w.alloc o) b v xs := ⟨h.1.alloc o, h.2⟩
theorem Ints.drew' (h : Ints w b v xs) : Ints w.drew b v xs := h
theorem Ints.drewN' (h : Ints w b v xs) (n : Nat) : Ints (w.drewN n) b v xs := h
theorem Rd.alloc' {rg m c K : Nat} {A : Option Addr} (h : Rd w rg A m c K) (o : Obj) : Rd (w.alloc o) rg A m c K := h.keep ((Below.refl _ _).alloc (Nat.le_refl _) _)
theorem Ints.made (w : World) {n b g : Nat} (hb : b ≤ w.heap.size) (hn : n ≤ 4194304) (hg : g = w.heap.size) : Ints (w.alloc (.cells (madeCells #[.int .i64 0] n) 3)) b (.slice (some ⟨g, 0, none⟩) n n) (List.replicate n 0) := by
  subst hg
  have h := made_ints w n 3 b hb hn
  exact ⟨by simpa using h, by simpa [small] using hn⟩
end

/-- what l20Flow leaves -/
def Flowed (w : World) (rg : Nat) (A : Option Addr) (m c K : Nat) (e : Ending) (w' : World) : Prop :=
  ∃ (z : Int) (ps : List Pp) (v : Value) (xs : List Int) (u : Value), e = .returned (.tuple #[.agg #[.int .i64 z, v], u]) ∧ Pipes w' w.heap.size v ps ∧ Ints w' w.heap.size u xs ∧ Rd w' rg A m c K ∧ w.grownBy w' (some rg) ∧ ps.length ≤ 8 ∧ 1 ≤ z ∧ z ≤ 6

set_option maxRecDepth 20000 in
set_option maxHeartbeats 4000000 in
set_option maxRecDepth 20000 in
theorem l20Flow_any (n : Int) (rg m c K : Nat) (A : Option Addr) (w : World) (h : Rd w rg A m c K) (hK : K ≤ 40000) (h1 : 1 ≤ n) (h2 : n ≤ 1000) :
    Calls Try.prog 66 #[.pointer (some ⟨rg, 0, none⟩), .int .i64 n] w (Flowed w rg A m c (K + 400)) := by
  have hrg := h.1
  go_enter Try.func66, Try.ntmps66
  go_wp2_with fail
  refine (l20Net_any n rg m c K A _ (h.keep (by (repeat (first | (with_reducible assumption) | (with_reducible exact Below.refl _ _) | ((with_reducible refine Below.alloc ?_ ?hsz _); (case hsz => (first | omega | (simp; done) | (simp; omega) | (simp at *; omega)))) | ((with_reducible refine Below.setCell ?_ ?hsz _); (case hsz => (first | omega | (simp; done) | (simp; omega) | (simp at *; omega)))) | (with_reducible refine Below.drew ?_) | (with_reducible refine below_drewN ?_ _) | ((with_reducible refine Below.trans ?_ (Below.mono (by with_reducible assumption) ?hsz)); (case hsz => (first | omega | (simp; done) | (simp; omega) | (simp at *; omega)))))))) (by omega) h1 h2).mono ?_
  rintro e w1 ⟨z, ps, v, rfl, hp1, hr1, hg1, hl8, hz1, hz6⟩
  rw [World.size_alloc] at hp1
  have bx1 : Box2 w1 w.heap.size (.int .i64 0) (.slice none 0 0) := (Box2.new w _ _ 25).grown hg1 (by simp; omega)
  have hs1 := hg1.size
  rw [World.size_alloc] at hs1
  have hgw1 : w.grownBy w1 (some rg) := grow_more (grow_alloc (grow_refl w _) _) hg1 (fun q hq => .inr hq)
  obtain ⟨PA, pc, rfl, hc1, hc2, hsm, -⟩ := hp1.form
  unfold maxLen at hc2
  have hmk := fun W => run_make_ints hsm W
  go_wp2_with fail
  have nb1 : Box2 (w1.alloc (.cells #[.int .i64 z, .slice PA ps.length pc] 25)) w1.heap.size (.int .i64 z) (.slice PA ps.length pc) := Box2.new _ _ _ _
  refine (specNetOk_any z _ ps _ _ (hp1.keep (by (repeat (first | (with_reducible assumption) | (with_reducible exact Below.refl _ _) | ((with_reducible refine Below.alloc ?_ ?hsz _); (case hsz => (first | omega | (simp; done) | (simp; omega) | (simp at *; omega)))) | ((with_reducible refine Below.setCell ?_ ?hsz _); (case hsz => (first | omega | (simp; done) | (simp; omega) | (simp at *; omega)))) | (with_reducible refine Below.drew ?_) | (with_reducible refine below_drewN ?_ _) | ((with_reducible refine Below.trans ?_ (Below.mono (by with_reducible assumption) ?hsz)); (case hsz => (first | omega | (simp; done) | (simp; omega) | (simp at *; omega))))))))).mono ?_
  rintro e w2 ⟨rfl, hb2⟩
  have nb2 := nb1.keep hb2
  have hb12 : Below w1.heap.size w1 w2 := by (repeat (first | (with_reducible assumption) | (with_reducible exact Below.refl _ _) | ((with_reducible refine Below.alloc ?_ ?hsz _); (case hsz => (first | omega | (simp; done) | (simp; omega) | (simp at *; omega)))) | ((with_reducible refine Below.setCell ?_ ?hsz _); (case hsz => (first | omega | (simp; done) | (simp; omega) | (simp at *; omega)))) | (with_reducible refine Below.drew ?_) | (with_reducible refine below_drewN ?_ _) | ((with_reducible refine Below.trans ?_ (Below.mono (by with_reducible assumption) ?hsz)); (case hsz => (first | omega | (simp; done) | (simp; omega) | (simp at *; omega))))))
  have bx2 := bx1.keep hb12
  have hr2 := hr1.keep hb12
  have hgw2 := grow_below hgw1 hb12
  have hp2 := hp1.keep hb12
  obtain ⟨ns, n0, n1, n2, n3⟩ := id nb2
  obtain ⟨bs, b0, b1, b2, b3⟩ := id bx2
  by_cases hok : netOkB z ps = true
  · go_wp2_with fail
    refine (l20Round_any z _ ps (w.heap.size + 1) rg m c _ A _ (hr2) (by omega) hp2 (by omega) hok).mono ?_
    rintro e w3 ⟨gu, uc, xs, rfl, hx3, hxl, hr3, hg3⟩
    obtain ⟨hown3, hxs⟩ := hx3
    have hrz := hr2.1
    have hs2 := hgw2.size
    have hgu := (hown3.lt gu rfl).1
    rw [hxl] at hown3
    have Hxl := Lib.hid hxl
    clear n0 n1 n2 n3 b0 b1 b2 b3 hxl
    obtain ⟨i0, hi0, hz0, hz1', hz2'⟩ := info_parts int_info
    go_wp2_with fail
    refine (pick_any 3 rg m c _ A _ hr3 (by omega) (by omega) (by omega)).mono ?_
    rintro e w4 ⟨x4, rfl, x40, x41, hr4, hg4, hz4⟩
    have hw4 : w2.grownBy w4 (some rg) := grow_more hg3 hg4 (fun q hq => .inr hq)
    have hown4 := own_grow hown3 hg4 (fun q hq => by injection hq with hq; omega)
    have hl7 := (netOk_parts hok).2.2.1
    clear hr1 hr2 hr3 nb1 bx1 hown3 hg3 hg4 hp1 hgw1 hg1 hok
    by_cases hx0 : x4 = 0
    · subst hx0
      go_wp2_with fail
      go_loopw [8] (fun i wr => ∃ (k : Nat) (ys : List Int), k ≤ ps.length ∧ i = .int .i64 k ∧ ys.length = ps.length ∧ wr.ownsRow w2.heap.size 3 1 (.slice (some ⟨gu, 0, none⟩) ps.length uc) ps.length (ys.map (Value.int .i64)) ∧
          Rd wr rg A m c (K + 202 + k) ∧ w2.grownBy wr (some rg)) (fun i _ => ps.length - (intOf i).toNat)
      case atStart => exact ⟨0, xs, by omega, rfl, Hxl.out, hown4, hr4.more (by omega), hw4⟩
      case round =>
        obtain ⟨k, ys, hk, rfl, hyl, hown, hr, hg⟩ := hrel
        clear hr4 hw4 hown4
        have Hyl := Lib.hid hyl
        clear hyl
        by_cases hlt : k < ps.length
        · go_upto_region 9 with fail
          obtain ⟨yv, hyv⟩ : ∃ yv : Int, (ys.map (Value.int .i64))[k]? = some (.int .i64 yv) := ⟨ys[k]'(by have := Hyl.out; omega), by simp [Hyl.out, hlt]⟩
          have y0 := (hown.cellAt k (by omega)).trans hyv
          have y1 := hown.frozenAt k
          have hgr := (hown.lt gu rfl).2
          have hrr := hr.1
          have hne1 : gu ≠ rg := by omega
          go_region_with ((go_at_call 61; (with_reducible refine (pick_any 4 rg m c _ A _ (hr.drew) (by omega) (by omega) (by omega)).mono ?_); rintro e w5 ⟨x5, rfl, x50, x51, hr5, hg5, hz5⟩; have hc5 := ((gcell hg5).1 gu k hgr hne1).trans y0; have hf5 := ((gcell hg5).2 gu k hgr hne1).trans y1))
          all_goals
            go_wp2
            have hown5 := own_grow (own_keep hown (Nat.le_refl _) (Below.drew (Below.refl _ _))) hg5 (fun q hq => by injection hq with hq; omega)
            have hset := (hown5.stored k (.int .i64 (wrap64 (yv + x5)))).1
            rw [← List.map_set] at hset
            have hg5' : w2.grownBy w5 (some rg) := grow_more (grow_drew hg) hg5 (fun q hq => .inr hq)
            go_roundw
            case rel => exact ⟨k + 1, ys.set k (wrap64 (yv + x5)), by omega, by go_num, by simp; exact Hyl.out, hset, (hr5.set (by simp; omega) _).more (by omega), grow_set hg5' (.inl (by simp; omega)) _⟩
            case measure => simp [intOf]; omega
        · go_wp2_with fail
          refine (odd_any n rg m c _ A _ hr (by omega) h1 (by omega)).mono ?_
          rintro e w5 ⟨bb, rfl, hr5, hg5, hz5⟩
          have hw5 := grow_more hg hg5 (fun q hq => .inr hq)
          have hown5 := own_grow hown hg5 (fun q hq => by injection hq with hq; omega)
          cases bb with
          | false =>
            replace hr5 := hr5.more (K' := K + 350) (by omega)
            have nb5 := nb2.grown hw5 (by simp; omega)
            have bx5 := bx2.grown hw5 (by simp; omega)
            have hp5 := hp2.grown hw5 (by omega)
            have hgw5 := grow_more hgw2 hw5 (fun q hq => .inr hq)
            obtain ⟨ns5, n0, n1, n2, n3⟩ := id nb5
            obtain ⟨bs5, b0, b1, b2, b3⟩ := id bx5
            go_wp2
            have hx5 : Ints w5 w2.heap.size (.slice (some ⟨gu, 0, none⟩) ps.length uc) ys := ⟨by rw [Hyl.out]; exact hown5, by rw [Hyl.out]; exact hsm⟩
            refine bodyPost_ret (v := .tuple #[.agg #[.int .i64 z, .slice PA ps.length pc], .slice (some ⟨gu, 0, none⟩) ps.length uc]) (by simp [results, Try.results66, go_sem, b0, b1]) rfl ⟨z, ps, _, ys, _, rfl, ?_, ?_, ?_, ?_, hl8, hz1, hz6⟩
            · refine Pipes.mono (b := w.heap.size + 1) ?_ (by omega)
              (repeat (first | (with_reducible assumption) | ((with_reducible refine Pipes.setLow ?_ ?hsz); (case hsz => (first | omega | (simp; done) | (simp; omega) | (simp at *; omega)))) | (with_reducible refine Pipes.alloc' ?_ _) | (with_reducible refine Pipes.drew' ?_) | (with_reducible refine Pipes.drewN' ?_ _) | ((with_reducible refine Pipes.keep ?_ (by with_reducible assumption)))))
            · refine Ints.mono (b := w2.heap.size) ?_ (by omega)
              (repeat (first | (with_reducible assumption) | ((with_reducible refine Ints.setLow ?_ ?hsz); (case hsz => (first | omega | (simp; done) | (simp; omega) | (simp at *; omega)))) | (with_reducible refine Ints.alloc' ?_ _) | (with_reducible refine Ints.drew' ?_) | (with_reducible refine Ints.drewN' ?_ _) | ((with_reducible refine Ints.keep ?_ (by with_reducible assumption)))))
            · refine Rd.more (K := K + 350) ?_ (by omega)
              (repeat (first | (with_reducible assumption) | ((with_reducible refine Rd.set ?_ ?hsz _); (case hsz => (first | omega | (simp; done) | (simp; omega) | (simp at *; omega)))) | (with_reducible refine Rd.alloc' ?_ _) | (with_reducible refine Rd.drew ?_) | (with_reducible refine Rd.drewN ?_ _) | ((with_reducible refine Rd.keep ?_ (by with_reducible assumption)))))
            · exact grow_set (grow_set hgw5 (.inl (Nat.le_refl _)) _) (.inl (Nat.le_refl _)) _
          | true =>
            go_wp2_with fail
            refine (pick_any 2 rg m c _ A _ hr5 (by omega) (by omega) (by omega)).mono ?_
            rintro e w6 ⟨x6, rfl, x60, x61, hr6, hg6, hz6'⟩
            have hw6 := grow_more hw5 hg6 (fun q hq => .inr hq)
            have hown6 := own_grow hown5 hg6 (fun q hq => by injection hq with hq; omega)
            replace hr6 := hr6.more (K' := K + 350) (by omega)
            have nb6 := nb2.grown hw6 (by simp; omega)
            have bx6 := bx2.grown hw6 (by simp; omega)
            have hp6 := hp2.grown hw6 (by omega)
            have hgw6 := grow_more hgw2 hw6 (fun q hq => .inr hq)
            clear hg6 hg5 hown5 hr5 hw5 hz5 hz6'
            have hs6 := hw6.size
            by_cases hx6 : x6 = 0
            · subst hx6
              go_wp2_with (first
                | (at_builtin
                   go_must (refine wpList_append_lies _ rfl _ _ 40 rfl w2.heap.size 3 i0 _ 1 8 Try.underlying40 hi0 hz0 hz1' hz2' rfl (by omega) _ ps.length ((ys).map (Value.int .i64)) rfl (hown6.alloc _) ⟨w6.heap.size, 0, none⟩ 1 1 [.int .i64 0] rfl rfl (World.news_of_block (cs := #[.int .i64 0]) (t := 3) (fr := (0, 0)) (heap_alloc_new _ _)) (by simp [Value.oneCell']) (by omega) (by unfold maxLen; omega) (by omega) (by simp; omega) _ rfl ?_)
                   intro g2 k2 w7 hown7 hgr7 hat7 hlt7
                   go_must (have nb7 := (nb6.keep ((Below.refl _ _).alloc (Nat.le_refl _) _)).grown hgr7 (by intro hh; injection hh with hh; dsimp only at hh; omega))
                   go_must (have bx7 := (bx6.keep ((Below.refl _ _).alloc (Nat.le_refl _) _)).grown hgr7 (by intro hh; injection hh with hh; dsimp only at hh; omega))
                   obtain ⟨ns7, n0, n1, n2, n3⟩ := id nb7
                   obtain ⟨bs7, b0, b1, b2, b3⟩ := id bx7))
              have hp7 : Pipes w7 (w.heap.size + 1) (.slice PA ps.length pc) ps := hp2.grown (grow_more (grow_alloc hw6 (.cells #[.int .i64 0] 3)) hgr7 (fun q hq => by injection hq with hq; dsimp only at hq; left; omega)) (by omega)
              have hr7 := (hr6.alloc' (.cells #[.int .i64 0] 3)).low (below_grow hgr7 (by simp; omega) (fun q hq => by injection hq with hq; dsimp only at hq; omega))
              have hgw7 : w.grownBy w7 (some rg) := grow_more (grow_alloc hgw6 (.cells #[.int .i64 0] 3)) hgr7 (fun q hq => by injection hq with hq; dsimp only at hq; left; omega)
              have hx7 : Ints w7 w2.heap.size (.slice (some ⟨g2, 0, none⟩) (ps.length + 1) k2) ((ys) ++ [0]) := ⟨by rw [List.length_append, Hyl.out, List.map_append]; exact hown7, by rw [List.length_append, Hyl.out]; unfold small; simp; omega⟩
              refine bodyPost_ret (v := .tuple #[.agg #[.int .i64 z, .slice PA ps.length pc], .slice (some ⟨g2, 0, none⟩) (ps.length + 1) k2]) (by simp [results, Try.results66, go_sem, b0, b1]) rfl ⟨z, ps, _, (ys) ++ [0], _, rfl, ?_, ?_, ?_, ?_, hl8, hz1, hz6⟩
              · refine Pipes.mono (b := w.heap.size + 1) ?_ (by omega)
                (repeat (first | (with_reducible assumption) | ((with_reducible refine Pipes.setLow ?_ ?hsz); (case hsz => (first | omega | (simp; done) | (simp; omega) | (simp at *; omega)))) | (with_reducible refine Pipes.alloc' ?_ _) | (with_reducible refine Pipes.drew' ?_) | (with_reducible refine Pipes.drewN' ?_ _) | ((with_reducible refine Pipes.keep ?_ (by with_reducible assumption)))))
              · refine Ints.mono (b := w2.heap.size) ?_ (by omega)
                (repeat (first | (with_reducible assumption) | ((with_reducible refine Ints.setLow ?_ ?hsz); (case hsz => (first | omega | (simp; done) | (simp; omega) | (simp at *; omega)))) | (with_reducible refine Ints.alloc' ?_ _) | (with_reducible refine Ints.drew' ?_) | (with_reducible refine Ints.drewN' ?_ _) | ((with_reducible refine Ints.keep ?_ (by with_reducible assumption)))))
              · refine Rd.more (K := K + 350) ?_ (by omega)
                (repeat (first | (with_reducible assumption) | ((with_reducible refine Rd.set ?_ ?hsz _); (case hsz => (first | omega | (simp; done) | (simp; omega) | (simp at *; omega)))) | (with_reducible refine Rd.alloc' ?_ _) | (with_reducible refine Rd.drew ?_) | (with_reducible refine Rd.drewN ?_ _) | ((with_reducible refine Rd.keep ?_ (by with_reducible assumption)))))
              · exact grow_set (grow_set hgw7 (.inl (Nat.le_refl _)) _) (.inl (Nat.le_refl _)) _
            · have hx6' : (x6 == 0) = false := by rw [beq_eq_false_iff_ne]; exact hx6
              have hlit : (w6.alloc (.cells #[.int .i64 41] 3)).ownsRow w6.heap.size 3 1 (.slice (some ⟨w6.heap.size, 0, none⟩) 1 1) 1 [.int .i64 41] := World.ownsRow_lit (e := 3) (base := w6.heap.size) (size := 1) w6 #[.int .i64 41] 1 (Nat.le_refl _) (by simp [maxLen]) rfl
              have hsrc := hown6.alloc (.cells #[.int .i64 41] 3)
              have hlm : ((ys).map (Value.int .i64)).length = ps.length * 1 := by rw [List.length_map, Hyl.out, Nat.mul_one]
              go_wp2_with (first
                | (at_builtin
                   go_must (refine wpList_append_own_at _ rfl _ _ 40 rfl w6.heap.size 3 i0 _ 1 8 Try.underlying40 hi0 hz0 hz1' hz2' rfl (by omega) _ 1 [.int .i64 41] rfl hlit ⟨gu, 0, none⟩ ps.length uc ((ys).map (Value.int .i64)) rfl hlm (news_cells hsrc) (by simp [Value.oneCell']) (by unfold maxLen; omega) (by omega) (by simp) ?_)
                   intro v7 w7 hown7 hgr7 hat7 hlt7
                   go_must (have nb7 := (nb6.keep ((Below.refl _ _).alloc (Nat.le_refl _) _)).grown hgr7 (by intro hh; injection hh with hh; dsimp only at hh; omega))
                   go_must (have bx7 := (bx6.keep ((Below.refl _ _).alloc (Nat.le_refl _) _)).grown hgr7 (by intro hh; injection hh with hh; dsimp only at hh; omega))
                   obtain ⟨g7, k7, rfl, hg7a, hg7b⟩ := hown7.form (by omega)
                   obtain ⟨ns7, n0, n1, n2, n3⟩ := id nb7
                   obtain ⟨bs7, b0, b1, b2, b3⟩ := id bx7))
              have hp7 : Pipes w7 (w.heap.size + 1) (.slice PA ps.length pc) ps := hp2.grown (grow_more (grow_alloc hw6 (.cells #[.int .i64 41] 3)) hgr7 (fun q hq => by injection hq with hq; dsimp only at hq; left; omega)) (by omega)
              have hr7 := (hr6.alloc' (.cells #[.int .i64 41] 3)).low (below_grow hgr7 (by simp; omega) (fun q hq => by injection hq with hq; dsimp only at hq; omega))
              have hgw7 : w.grownBy w7 (some rg) := grow_more (grow_alloc hgw6 (.cells #[.int .i64 41] 3)) hgr7 (fun q hq => by injection hq with hq; dsimp only at hq; left; omega)
              have hl7x : (41 :: (ys)).length = 1 + ps.length := by rw [List.length_cons, Hyl.out, Nat.add_comm]
              have hx7 : Ints w7 w6.heap.size (.slice (some ⟨g7, 0, none⟩) (1 + ps.length) k7) (41 :: (ys)) := ⟨by rw [hl7x]; exact hown7, by rw [hl7x]; unfold small; omega⟩
              refine bodyPost_ret (v := .tuple #[.agg #[.int .i64 z, .slice PA ps.length pc], .slice (some ⟨g7, 0, none⟩) (1 + ps.length) k7]) (by simp [results, Try.results66, go_sem, b0, b1]) rfl ⟨z, ps, _, 41 :: (ys), _, rfl, ?_, ?_, ?_, ?_, hl8, hz1, hz6⟩
              · refine Pipes.mono (b := w.heap.size + 1) ?_ (by omega)
                (repeat (first | (with_reducible assumption) | ((with_reducible refine Pipes.setLow ?_ ?hsz); (case hsz => (first | omega | (simp; done) | (simp; omega) | (simp at *; omega)))) | (with_reducible refine Pipes.alloc' ?_ _) | (with_reducible refine Pipes.drew' ?_) | (with_reducible refine Pipes.drewN' ?_ _) | ((with_reducible refine Pipes.keep ?_ (by with_reducible assumption)))))
              · refine Ints.mono (b := w6.heap.size) ?_ (by omega)
                (repeat (first | (with_reducible assumption) | ((with_reducible refine Ints.setLow ?_ ?hsz); (case hsz => (first | omega | (simp; done) | (simp; omega) | (simp at *; omega)))) | (with_reducible refine Ints.alloc' ?_ _) | (with_reducible refine Ints.drew' ?_) | (with_reducible refine Ints.drewN' ?_ _) | ((with_reducible refine Ints.keep ?_ (by with_reducible assumption)))))
              · refine Rd.more (K := K + 350) ?_ (by omega)
                (repeat (first | (with_reducible assumption) | ((with_reducible refine Rd.set ?_ ?hsz _); (case hsz => (first | omega | (simp; done) | (simp; omega) | (simp at *; omega)))) | (with_reducible refine Rd.alloc' ?_ _) | (with_reducible refine Rd.drew ?_) | (with_reducible refine Rd.drewN ?_ _) | ((with_reducible refine Rd.keep ?_ (by with_reducible assumption)))))
              · exact grow_set (grow_set hgw7 (.inl (Nat.le_refl _)) _) (.inl (Nat.le_refl _)) _
    · have hx0' : (x4 == 0) = false := by rw [beq_eq_false_iff_ne]; exact hx0
      go_wp2_with fail
      refine (odd_any n rg m c _ A _ hr4 (by omega) h1 (by omega)).mono ?_
      rintro e w5 ⟨bb, rfl, hr5, hg5, hz5⟩
      have hw5 := grow_more hw4 hg5 (fun q hq => .inr hq)
      have hown5 := own_grow hown4 hg5 (fun q hq => by injection hq with hq; omega)
      cases bb with
      | false =>
        replace hr5 := hr5.more (K' := K + 350) (by omega)
        have nb5 := nb2.grown hw5 (by simp; omega)
        have bx5 := bx2.grown hw5 (by simp; omega)
        have hp5 := hp2.grown hw5 (by omega)
        have hgw5 := grow_more hgw2 hw5 (fun q hq => .inr hq)
        obtain ⟨ns5, n0, n1, n2, n3⟩ := id nb5
        obtain ⟨bs5, b0, b1, b2, b3⟩ := id bx5
        go_wp2
        have hx5 : Ints w5 w2.heap.size (.slice (some ⟨gu, 0, none⟩) ps.length uc) xs := ⟨by rw [Hxl.out]; exact hown5, by rw [Hxl.out]; exact hsm⟩
        refine bodyPost_ret (v := .tuple #[.agg #[.int .i64 z, .slice PA ps.length pc], .slice (some ⟨gu, 0, none⟩) ps.length uc]) (by simp [results, Try.results66, go_sem, b0, b1]) rfl ⟨z, ps, _, xs, _, rfl, ?_, ?_, ?_, ?_, hl8, hz1, hz6⟩
        · refine Pipes.mono (b := w.heap.size + 1) ?_ (by omega)
          (repeat (first | (with_reducible assumption) | ((with_reducible refine Pipes.setLow ?_ ?hsz); (case hsz => (first | omega | (simp; done) | (simp; omega) | (simp at *; omega)))) | (with_reducible refine Pipes.alloc' ?_ _) | (with_reducible refine Pipes.drew' ?_) | (with_reducible refine Pipes.drewN' ?_ _) | ((with_reducible refine Pipes.keep ?_ (by with_reducible assumption)))))
        · refine Ints.mono (b := w2.heap.size) ?_ (by omega)
          (repeat (first | (with_reducible assumption) | ((with_reducible refine Ints.setLow ?_ ?hsz); (case hsz => (first | omega | (simp; done) | (simp; omega) | (simp at *; omega)))) | (with_reducible refine Ints.alloc' ?_ _) | (with_reducible refine Ints.drew' ?_) | (with_reducible refine Ints.drewN' ?_ _) | ((with_reducible refine Ints.keep ?_ (by with_reducible assumption)))))
        · refine Rd.more (K := K + 350) ?_ (by omega)
          (repeat (first | (with_reducible assumption) | ((with_reducible refine Rd.set ?_ ?hsz _); (case hsz => (first | omega | (simp; done) | (simp; omega) | (simp at *; omega)))) | (with_reducible refine Rd.alloc' ?_ _) | (with_reducible refine Rd.drew ?_) | (with_reducible refine Rd.drewN ?_ _) | ((with_reducible refine Rd.keep ?_ (by with_reducible assumption)))))
        · exact grow_set (grow_set hgw5 (.inl (Nat.le_refl _)) _) (.inl (Nat.le_refl _)) _
      | true =>
        go_wp2_with fail
        refine (pick_any 2 rg m c _ A _ hr5 (by omega) (by omega) (by omega)).mono ?_
        rintro e w6 ⟨x6, rfl, x60, x61, hr6, hg6, hz6'⟩
        have hw6 := grow_more hw5 hg6 (fun q hq => .inr hq)
        have hown6 := own_grow hown5 hg6 (fun q hq => by injection hq with hq; omega)
        replace hr6 := hr6.more (K' := K + 350) (by omega)
        have nb6 := nb2.grown hw6 (by simp; omega)
        have bx6 := bx2.grown hw6 (by simp; omega)
        have hp6 := hp2.grown hw6 (by omega)
        have hgw6 := grow_more hgw2 hw6 (fun q hq => .inr hq)
        clear hg6 hg5 hown5 hr5 hw5 hz5 hz6'
        have hs6 := hw6.size
        by_cases hx6 : x6 = 0
        · subst hx6
          go_wp2_with (first
            | (at_builtin
               go_must (refine wpList_append_lies _ rfl _ _ 40 rfl w2.heap.size 3 i0 _ 1 8 Try.underlying40 hi0 hz0 hz1' hz2' rfl (by omega) _ ps.length ((xs).map (Value.int .i64)) rfl (hown6.alloc _) ⟨w6.heap.size, 0, none⟩ 1 1 [.int .i64 0] rfl rfl (World.news_of_block (cs := #[.int .i64 0]) (t := 3) (fr := (0, 0)) (heap_alloc_new _ _)) (by simp [Value.oneCell']) (by omega) (by unfold maxLen; omega) (by omega) (by simp; omega) _ rfl ?_)
               intro g2 k2 w7 hown7 hgr7 hat7 hlt7
               go_must (have nb7 := (nb6.keep ((Below.refl _ _).alloc (Nat.le_refl _) _)).grown hgr7 (by intro hh; injection hh with hh; dsimp only at hh; omega))
               go_must (have bx7 := (bx6.keep ((Below.refl _ _).alloc (Nat.le_refl _) _)).grown hgr7 (by intro hh; injection hh with hh; dsimp only at hh; omega))
               obtain ⟨ns7, n0, n1, n2, n3⟩ := id nb7
               obtain ⟨bs7, b0, b1, b2, b3⟩ := id bx7))
          have hp7 : Pipes w7 (w.heap.size + 1) (.slice PA ps.length pc) ps := hp2.grown (grow_more (grow_alloc hw6 (.cells #[.int .i64 0] 3)) hgr7 (fun q hq => by injection hq with hq; dsimp only at hq; left; omega)) (by omega)
          have hr7 := (hr6.alloc' (.cells #[.int .i64 0] 3)).low (below_grow hgr7 (by simp; omega) (fun q hq => by injection hq with hq; dsimp only at hq; omega))
          have hgw7 : w.grownBy w7 (some rg) := grow_more (grow_alloc hgw6 (.cells #[.int .i64 0] 3)) hgr7 (fun q hq => by injection hq with hq; dsimp only at hq; left; omega)
          have hx7 : Ints w7 w2.heap.size (.slice (some ⟨g2, 0, none⟩) (ps.length + 1) k2) ((xs) ++ [0]) := ⟨by rw [List.length_append, Hxl.out, List.map_append]; exact hown7, by rw [List.length_append, Hxl.out]; unfold small; simp; omega⟩
          refine bodyPost_ret (v := .tuple #[.agg #[.int .i64 z, .slice PA ps.length pc], .slice (some ⟨g2, 0, none⟩) (ps.length + 1) k2]) (by simp [results, Try.results66, go_sem, b0, b1]) rfl ⟨z, ps, _, (xs) ++ [0], _, rfl, ?_, ?_, ?_, ?_, hl8, hz1, hz6⟩
          · refine Pipes.mono (b := w.heap.size + 1) ?_ (by omega)
            (repeat (first | (with_reducible assumption) | ((with_reducible refine Pipes.setLow ?_ ?hsz); (case hsz => (first | omega | (simp; done) | (simp; omega) | (simp at *; omega)))) | (with_reducible refine Pipes.alloc' ?_ _) | (with_reducible refine Pipes.drew' ?_) | (with_reducible refine Pipes.drewN' ?_ _) | ((with_reducible refine Pipes.keep ?_ (by with_reducible assumption)))))
          · refine Ints.mono (b := w2.heap.size) ?_ (by omega)
            (repeat (first | (with_reducible assumption) | ((with_reducible refine Ints.setLow ?_ ?hsz); (case hsz => (first | omega | (simp; done) | (simp; omega) | (simp at *; omega)))) | (with_reducible refine Ints.alloc' ?_ _) | (with_reducible refine Ints.drew' ?_) | (with_reducible refine Ints.drewN' ?_ _) | ((with_reducible refine Ints.keep ?_ (by with_reducible assumption)))))
          · refine Rd.more (K := K + 350) ?_ (by omega)
            (repeat (first | (with_reducible assumption) | ((with_reducible refine Rd.set ?_ ?hsz _); (case hsz => (first | omega | (simp; done) | (simp; omega) | (simp at *; omega)))) | (with_reducible refine Rd.alloc' ?_ _) | (with_reducible refine Rd.drew ?_) | (with_reducible refine Rd.drewN ?_ _) | ((with_reducible refine Rd.keep ?_ (by with_reducible assumption)))))
          · exact grow_set (grow_set hgw7 (.inl (Nat.le_refl _)) _) (.inl (Nat.le_refl _)) _
        · have hx6' : (x6 == 0) = false := by rw [beq_eq_false_iff_ne]; exact hx6
          have hlit : (w6.alloc (.cells #[.int .i64 41] 3)).ownsRow w6.heap.size 3 1 (.slice (some ⟨w6.heap.size, 0, none⟩) 1 1) 1 [.int .i64 41] := World.ownsRow_lit (e := 3) (base := w6.heap.size) (size := 1) w6 #[.int .i64 41] 1 (Nat.le_refl _) (by simp [maxLen]) rfl
          have hsrc := hown6.alloc (.cells #[.int .i64 41] 3)
          have hlm : ((xs).map (Value.int .i64)).length = ps.length * 1 := by rw [List.length_map, Hxl.out, Nat.mul_one]
          go_wp2_with (first
            | (at_builtin
               go_must (refine wpList_append_own_at _ rfl _ _ 40 rfl w6.heap.size 3 i0 _ 1 8 Try.underlying40 hi0 hz0 hz1' hz2' rfl (by omega) _ 1 [.int .i64 41] rfl hlit ⟨gu, 0, none⟩ ps.length uc ((xs).map (Value.int .i64)) rfl hlm (news_cells hsrc) (by simp [Value.oneCell']) (by unfold maxLen; omega) (by omega) (by simp) ?_)
               intro v7 w7 hown7 hgr7 hat7 hlt7
               go_must (have nb7 := (nb6.keep ((Below.refl _ _).alloc (Nat.le_refl _) _)).grown hgr7 (by intro hh; injection hh with hh; dsimp only at hh; omega))
               go_must (have bx7 := (bx6.keep ((Below.refl _ _).alloc (Nat.le_refl _) _)).grown hgr7 (by intro hh; injection hh with hh; dsimp only at hh; omega))
               obtain ⟨g7, k7, rfl, hg7a, hg7b⟩ := hown7.form (by omega)
               obtain ⟨ns7, n0, n1, n2, n3⟩ := id nb7
               obtain ⟨bs7, b0, b1, b2, b3⟩ := id bx7))
          have hp7 : Pipes w7 (w.heap.size + 1) (.slice PA ps.length pc) ps := hp2.grown (grow_more (grow_alloc hw6 (.cells #[.int .i64 41] 3)) hgr7 (fun q hq => by injection hq with hq; dsimp only at hq; left; omega)) (by omega)
          have hr7 := (hr6.alloc' (.cells #[.int .i64 41] 3)).low (below_grow hgr7 (by simp; omega) (fun q hq => by injection hq with hq; dsimp only at hq; omega))
          have hgw7 : w.grownBy w7 (some rg) := grow_more (grow_alloc hgw6 (.cells #[.int .i64 41] 3)) hgr7 (fun q hq => by injection hq with hq; dsimp only at hq; left; omega)
          have hl7x : (41 :: (xs)).length = 1 + ps.length := by rw [List.length_cons, Hxl.out, Nat.add_comm]
          have hx7 : Ints w7 w6.heap.size (.slice (some ⟨g7, 0, none⟩) (1 + ps.length) k7) (41 :: (xs)) := ⟨by rw [hl7x]; exact hown7, by rw [hl7x]; unfold small; omega⟩
          refine bodyPost_ret (v := .tuple #[.agg #[.int .i64 z, .slice PA ps.length pc], .slice (some ⟨g7, 0, none⟩) (1 + ps.length) k7]) (by simp [results, Try.results66, go_sem, b0, b1]) rfl ⟨z, ps, _, 41 :: (xs), _, rfl, ?_, ?_, ?_, ?_, hl8, hz1, hz6⟩
          · refine Pipes.mono (b := w.heap.size + 1) ?_ (by omega)
            (repeat (first | (with_reducible assumption) | ((with_reducible refine Pipes.setLow ?_ ?hsz); (case hsz => (first | omega | (simp; done) | (simp; omega) | (simp at *; omega)))) | (with_reducible refine Pipes.alloc' ?_ _) | (with_reducible refine Pipes.drew' ?_) | (with_reducible refine Pipes.drewN' ?_ _) | ((with_reducible refine Pipes.keep ?_ (by with_reducible assumption)))))
          · refine Ints.mono (b := w6.heap.size) ?_ (by omega)
            (repeat (first | (with_reducible assumption) | ((with_reducible refine Ints.setLow ?_ ?hsz); (case hsz => (first | omega | (simp; done) | (simp; omega) | (simp at *; omega)))) | (with_reducible refine Ints.alloc' ?_ _) | (with_reducible refine Ints.drew' ?_) | (with_reducible refine Ints.drewN' ?_ _) | ((with_reducible refine Ints.keep ?_ (by with_reducible assumption)))))
          · refine Rd.more (K := K + 350) ?_ (by omega)
            (repeat (first | (with_reducible assumption) | ((with_reducible refine Rd.set ?_ ?hsz _); (case hsz => (first | omega | (simp; done) | (simp; omega) | (simp at *; omega)))) | (with_reducible refine Rd.alloc' ?_ _) | (with_reducible refine Rd.drew ?_) | (with_reducible refine Rd.drewN ?_ _) | ((with_reducible refine Rd.keep ?_ (by with_reducible assumption)))))
          · exact grow_set (grow_set hgw7 (.inl (Nat.le_refl _)) _) (.inl (Nat.le_refl _)) _
  · have hok' : netOkB z ps = false := by simpa using hok
    clear hok
    have hne : w.heap.size ≠ w1.heap.size := by omega
    go_wp2_with fail
    go_region_held3 (fun w' => w'.cell? ⟨w1.heap.size, 0, none⟩ = some (.int .i64 z) ∧ w'.cell? ⟨w1.heap.size, 1, none⟩ = some (.slice PA ps.length pc))
            (first | go_keep | (go_split_ands; refine ⟨?_, ?_⟩ <;> (repeat (first | (with_reducible assumption) | ((with_reducible refine (Below.cell (by with_reducible assumption) ?hsz).trans ?_); (case hsz => (first | omega | (simp; done) | (simp; omega) | (simp at *; omega)))) | ((with_reducible refine (World.cell?_alloc_lt _ _ _ ?hsz).trans ?_); (case hsz => (first | omega | (simp; done) | (simp; omega) | (simp at *; omega)))) | ((with_reducible refine (World.cell?_setCell_other _ _ _ _ ?hsz).trans ?_); (case hsz => (intro h; injection h with h1 h2; omega)))))))
            (fail)
    all_goals
      go_wp2
      refine bodyPost_ret (v := .tuple #[.agg #[.int .i64 z, .slice PA ps.length pc], .slice (some ⟨w2.heap.size, 0, none⟩) ps.length ps.length]) (by simp [results, Try.results66, go_sem, b0, b1, World.cell?_alloc_lt, bs]) rfl ⟨z, ps, _, List.replicate ps.length 0, _, rfl, ?_, ?_, ?_, ?_, hl8, hz1, hz6⟩
      · refine Pipes.mono (b := w.heap.size + 1) ?_ (by omega)
        (repeat (first | (with_reducible assumption) | ((with_reducible refine Pipes.setLow ?_ ?hsz); (case hsz => (first | omega | (simp; done) | (simp; omega) | (simp at *; omega)))) | (with_reducible refine Pipes.alloc' ?_ _) | (with_reducible refine Pipes.drew' ?_) | (with_reducible refine Pipes.drewN' ?_ _) | ((with_reducible refine Pipes.keep ?_ (by with_reducible assumption)))))
      · refine Ints.mono (b := w.heap.size + 1) ?_ (by omega)
        first
          | exact Ints.drew' (Ints.made _ (by (first | omega | (simp; done) | (simp; omega) | (simp at *; omega))) hsm (by simp))
          | exact Ints.drew' (((Ints.made w2 (by (first | omega | (simp; done) | (simp; omega) | (simp at *; omega))) hsm (by simp)).setLow (by (first | omega | (simp; done) | (simp; omega) | (simp at *; omega)))).setLow (by (first | omega | (simp; done) | (simp; omega) | (simp at *; omega))))
          | exact ((((Ints.made w2 (by (first | omega | (simp; done) | (simp; omega) | (simp at *; omega))) hsm (by simp)).drew').setLow (by (first | omega | (simp; done) | (simp; omega) | (simp at *; omega)))).setLow (by (first | omega | (simp; done) | (simp; omega) | (simp at *; omega))))
          | exact ((((Ints.made w2.drew (by (first | omega | (simp; done) | (simp; omega) | (simp at *; omega))) hsm (by simp)).setLow (by (first | omega | (simp; done) | (simp; omega) | (simp at *; omega)))).setLow (by (first | omega | (simp; done) | (simp; omega) | (simp at *; omega)))))
      · refine Rd.more (K := K + 100) ?_ (by omega)
        (repeat (first | (with_reducible assumption) | ((with_reducible refine Rd.set ?_ ?hsz _); (case hsz => (first | omega | (simp; done) | (simp; omega) | (simp at *; omega)))) | (with_reducible refine Rd.alloc' ?_ _) | (with_reducible refine Rd.drew ?_) | (with_reducible refine Rd.drewN ?_ _) | ((with_reducible refine Rd.keep ?_ (by with_reducible assumption)))))
      · first
          | exact grow_drew (grow_alloc (grow_set (grow_set hgw2 (.inl (Nat.le_refl _)) _) (.inl (Nat.le_refl _)) _) _)
          | exact grow_drew (grow_set (grow_set (grow_alloc hgw2 _) (.inl (Nat.le_refl _)) _) (.inl (Nat.le_refl _)) _)
          | exact (grow_set (grow_set (grow_drew (grow_alloc hgw2 _)) (.inl (Nat.le_refl _)) _) (.inl (Nat.le_refl _)) _)
          | exact (grow_set (grow_set (grow_alloc (grow_drew hgw2) _) (.inl (Nat.le_refl _)) _) (.inl (Nat.le_refl _)) _)

end Go.Proofs.Ytphbmlephldaaaa

/- Contracts of the laws' draws that give a net and a flow. -/
namespace Go.Proofs.Ytphbmlephldaaaa
open Go.RowKit

/-- what a draw of a net and a flow leaves -/
def DrawnFlow (w : World) (e : Ending) (w' : World) : Prop :=
  ∃ (z : Int) (ps : List Pp) (u : Value) (xs : List Int) (t : Value), e = .returned (.tuple #[.agg #[.int .i64 z, u], t]) ∧ Pipes w' w.heap.size u ps ∧ Ints w' w.heap.size t xs ∧ Below w.heap.size w w' ∧ ps.length ≤ 8 ∧ 1 ≤ z ∧ z ≤ 6
/-- what a draw of a net, a flow and a number leaves -/
def DrawnFlowInt (w : World) (e : Ending) (w' : World) : Prop :=
  ∃ (z : Int) (ps : List Pp) (u : Value) (xs : List Int) (t : Value) (i : Int), e = .returned (.tuple #[.agg #[.int .i64 z, u], t, .int .i64 i]) ∧ Pipes w' w.heap.size u ps ∧ Ints w' w.heap.size t xs ∧ Below w.heap.size w w' ∧ ps.length ≤ 8 ∧ 1 ≤ z ∧ z ≤ 6

end Go.Proofs.Ytphbmlephldaaaa
