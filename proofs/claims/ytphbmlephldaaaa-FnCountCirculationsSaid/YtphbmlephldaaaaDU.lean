/- Contracts of the draws: a net in which some pipes have least amounts. -/
import Derived.Test.YtphbmlephldaaaaDX
import Derived.Test.YtphbmlephldaaaaS1
namespace Go.Proofs.Ytphbmlephldaaaa
open Go.RowKit

theorem LeastSt.drew {w wx : World} {nb rg m c K : Nat} {A : Option Addr} {z : Int} {S : Value} {L : Nat} (h : LeastSt w nb rg m c K A z S L wx) : LeastSt w nb rg m c K A z S L { wx with drawn := wx.drawn + 1 } :=
  ⟨h.row, h.net, h.res, h.rd, grow_drew h.gr, h.ne⟩

section
variable {w wx wy : World} {nb rg m c K : Nat} {A : Option Addr} {z : Int} {S : Value} {L f : Nat}
theorem laC.grown (h : laC w nb rg m c K A z S L (f + 1) wx) (hrg : rg < w.heap.size) (hwn : w.heap.size < nb) (hg : wx.grownBy wy (some rg)) (hr : Rd wy rg A m c (K + (24 - (f + 1)) + 1)) : laC w nb rg m c K A z S L f wy := by
  obtain ⟨h1, h2, h3, h4, h5, h6, h7⟩ := h
  exact ⟨by omega, hr.more (by omega), grow_more h3 hg (fun q hq => .inr hq), h4.grown hg (by simp; omega), Nat.lt_of_lt_of_le h5 hg.size, fun hf => (h6 (by omega)).grown hg (by simp; omega), fun hf => (h7 (by omega)).grown hg (by omega)⟩
theorem laC.step (h : laC w nb rg m c K A z S L (f + 1) wx) (hrg : rg < w.heap.size) (hwn : w.heap.size < nb) : laC w nb rg m c K A z S L f wx :=
  h.grown hrg hwn (grow_refl _ _) (h.2.1.more (by omega))
theorem laC.made (h : laC w nb rg m c K A z S L (f + 1) wx) (hrg : rg < w.heap.size) (hwn : w.heap.size < nb) (o : Obj) : laC w nb rg m c K A z S L f (wx.alloc o) :=
  h.grown hrg hwn (grow_alloc (grow_refl _ _) _) ((h.2.1.keep ((Below.refl _ _).alloc (Nat.le_refl _) _)).more (by omega))
end

set_option maxHeartbeats 4000000 in
set_option maxRecDepth 20000 in
theorem l20Least_bd (n : Int) (rg m c K : Nat) (A : Option Addr) (w : World) (h : Rd w rg A m c K) (hK : K ≤ 50000) (h1 : 1 ≤ n) (h2 : n ≤ 1000) :
    Calls Try.prog 55 #[.pointer (some ⟨rg, 0, none⟩), .int .i64 n] w fun e w' => ∃ (z : Int) (ps : List Pp) (v : Value), e = .returned (.agg #[.int .i64 z, v]) ∧ Pipes w' w.heap.size v ps ∧ Rd w' rg A m c (K + 400) ∧ w.grownBy w' (some rg) ∧ ps.length ≤ 8 ∧ 1 ≤ z ∧ z ≤ 6 ∧ BdL ps := by
  have hrg := h.1
  obtain ⟨i0, hi0, hz0, hz1', hz2'⟩ := info_parts pipe_info
  go_enter Try.func55, Try.ntmps55
  go_wp2_with fail
  refine (l20Net_bd n rg m c K A _ (h.keep (by (repeat (first | (with_reducible assumption) | (with_reducible exact Below.refl _ _) | ((with_reducible refine Below.alloc ?_ ?hsz _); (case hsz => (first | omega | (simp; done) | (simp; omega) | (simp at *; omega)))) | ((with_reducible refine Below.setCell ?_ ?hsz _); (case hsz => (first | omega | (simp; done) | (simp; omega) | (simp at *; omega)))) | (with_reducible refine Below.drew ?_) | (with_reducible refine below_drewN ?_ _) | ((with_reducible refine Below.trans ?_ (Below.mono (by with_reducible assumption) ?hsz)); (case hsz => (first | omega | (simp; done) | (simp; omega) | (simp at *; omega)))))))) hK h1 h2).mono ?_
  rintro e w2 ⟨z, ps, v, rfl, hp2, hr2, hg2, hl8, hzl, hzh, hbd⟩
  rw [World.size_alloc] at hp2
  have bx2 : Box2 w2 w.heap.size (.int .i64 0) (.slice none 0 0) := (Box2.new w _ _ 25).grown hg2 (by simp; omega)
  have hs2 := hg2.size
  rw [World.size_alloc] at hs2
  have hgw2 : w.grownBy w2 (some rg) := grow_more (grow_alloc (grow_refl w _) _) hg2 (fun q hq => .inr hq)
  obtain ⟨PA, pc, rfl, -, -, -, -⟩ := hp2.form
  have hlt2 := hp2.1.lt
  have st2 : LeastSt w w2.heap.size rg m c (K + 100) A z (.slice PA ps.length pc) ps.length (w2.alloc (.cells #[.int .i64 z, .slice PA ps.length pc] 25)) :=
    ⟨⟨ps, rfl, hp2.1.alloc _, hbd⟩, Box2.new _ _ _ _, bx2.keep ((Below.refl _ _).alloc (Nat.le_refl _) _), hr2.alloc' _, grow_alloc hgw2 _, fun q hq => by have := (hlt2 q hq).2; omega⟩
  have hwn : w.heap.size < w2.heap.size := by omega
  obtain ⟨L, hL⟩ : ∃ L, ps.length = L := ⟨_, rfl⟩
  rw [hL] at st2 hl8 ⊢
  clear hgw2 bx2 hlt2 hr2 hg2 hp2 h hL
  go_wp2_with fail
  go_loopw [6] (fun t wr => ∃ k : Nat, k ≤ L ∧ t = .int .i64 k ∧ LeastSt w w2.heap.size rg m c (K + 100 + k) A z (.slice PA L pc) L wr) (fun t _ => L - (intOf t).toNat)
  case atStart => exact ⟨0, by omega, rfl, st2⟩
  case round =>
    clear st2
    obtain ⟨k, hk, rfl, st⟩ := hrel
    obtain ⟨ns, n0, n1, n2, n3⟩ := id st.net
    by_cases hlt : k < L
    · go_wp2_with fail
      refine (pick_any 3 rg m c (K + 100 + k) A _ st.rd (by omega) (by omega) (by omega)).mono ?_
      rintro e w3 ⟨x, rfl, x0, x1, hr3, hg3, hz3⟩
      have st3 := st.picked hrg hwn hg3 hr3
      clear n0 n1 n2 n3 ns hr3 hg3 hz3 st
      obtain ⟨ns, n0, n1, n2, n3⟩ := id st3.net
      by_cases hx : x = 0
      · have e0 : (x == 0) = true := by simp [hx]
        obtain ⟨A1, c1, e1, -, -, hc⟩ := st3.row.form
        injection e1 with e1 e2 e3
        obtain ⟨-, -, -, -, g, rfl, -, -, -, -, -, -, -⟩ := hc k hlt
        subst e1
        clear hc e2 e3
        go_wp2_with fail
        refine wp_region_flow 13 none [(0, 21), (1, 22), (2, 23), (3, 24), (4, 25), (5, 26), (6, 27), (7, 28), (8, 29), (9, 30), (10, 31), (11, 32)]
          (fun j x _ _ => lsV w2.heap.size g k L pc j x) (fun _ _ _ => True) (fun _ wx => LeastSt w w2.heap.size rg m c (K + 100 + k + 1) A z (.slice (some ⟨g, 0, none⟩) L pc) L wx) (by kernel_rfl) (by kernel_rfl) rfl st3.drew ?_ ?_ ?_ ?_
        · exact fun _ _ _ _ _ _ _ _ _ _ h => h
        · exact fun _ _ _ _ _ _ _ h => h
        · clear n0 n1 n2 n3
          simp only [eachOp, fillF, List.setIfInBounds_toArray, List.set_cons_succ, List.set_cons_zero]
          refine ⟨?_, ?_, ?_, ?_, ?_, ?_, ?_, ?_, ?_, ?_, ?_, ?_, ?_, trivial⟩ <;> intro u f wx hC hd <;> (try simp [allV, useOf, Region.binds] at hd) <;> obtain ⟨nx, n0, n1, n2, n3⟩ := id hC.net <;> obtain ⟨A1, c1, e1, ll1, ll2, hc⟩ := hC.row.form <;> injection e1 with e1 e2 e3 <;> subst e1 <;> subst e3 <;> obtain ⟨y2, y0, y1, y3, g', eg, hgb, hgl, c0, c1, c2, c3, cf, yb0, yb1⟩ := hc k hlt <;> injection eg with eg <;> injection eg with eg <;> subst eg <;> unfold maxLen at ll2 <;> clear hc
          · go_wp2
            exact ⟨_, rfl, rfl, trivial, hC⟩
          · rw [show u 0 = _ from hd]
            go_wp2
            exact ⟨_, rfl, rfl, trivial, hC⟩
          · go_wp2
            exact ⟨_, rfl, rfl, trivial, hC⟩
          · go_wp2
            exact ⟨_, rfl, rfl, trivial, hC⟩
          · rw [show u 3 = _ from hd]
            go_wp2
            exact ⟨_, rfl, rfl, trivial, hC⟩
          · go_wp2
            exact ⟨_, rfl, rfl, trivial, hC⟩
          · rw [show u 4 = _ from hd.1, show u 5 = _ from hd.2]
            go_wp2
            exact ⟨_, rfl, rfl, trivial, hC⟩
          · rw [show u 6 = _ from hd]
            go_wp2
            exact ⟨_, rfl, rfl, trivial, hC⟩
          · rw [show u 7 = _ from hd]
            go_wp2
            exact ⟨_, rfl, ⟨_, rfl, yb0, yb1⟩, trivial, hC⟩
          · obtain ⟨y, hy, yy0, yy1⟩ : ∃ y : Int, u 8 = .int .i64 y ∧ 0 ≤ y ∧ y ≤ 4 := hd
            rw [hy]
            by_cases hm : (1 : Int) ≤ y
            all_goals
              go_wp2
              exact ⟨_, rfl, ⟨_, rfl, by omega, by omega⟩, trivial, hC⟩
          · rw [show u 1 = _ from hd.1, show u 2 = _ from hd.2]
            go_wp2
            exact ⟨_, rfl, rfl, trivial, hC⟩
          · rw [show u 10 = _ from hd]
            go_wp2
            exact ⟨_, rfl, rfl, trivial, hC⟩
          · obtain ⟨hda, hdb⟩ := hd
            obtain ⟨y, hy, yy0, yy1⟩ : ∃ y : Int, u 9 = .int .i64 y ∧ 0 ≤ y ∧ y ≤ 4 := by first | exact hda | exact hdb
            have hS := hC.set2 hrg hlt y yy0 yy1
            have HS := Lib.hid hS
            clear hS
            have h11 : u 11 = .pointer (some ⟨g, k * 5 + 2, none⟩) := by first | exact hda | exact hdb
            rw [hy, h11]
            go_wp2
            exact ⟨undef, rfl, trivial, trivial, HS.out⟩
        · intro u f wx hC hfin
          simp only [fillEnd, fillF, Act.put, List.setIfInBounds_toArray, List.set_cons_succ, List.set_cons_zero]
          clear hfin n0 n1 n2 n3
          go_wp2
          go_roundw
          case rel => exact ⟨k + 1, by omega, by go_num, hC⟩
          case measure => simp [intOf]; omega
      · have e0 : (x == 0) = false := by simp [hx]
        go_wp2
        go_roundw
        case rel => exact ⟨k + 1, by omega, by go_num, st3⟩
        case measure => simp [intOf]; omega
    · obtain ⟨qs, hq1, hqp, -⟩ := st.row.pipes hl8
      replace st := st.more (K' := K + 110) (by omega)
      go_wp2_with fail
      clear hk hlt
      refine (specNetOk_any z _ qs _ wr hqp).mono ?_
      rintro e w4 ⟨rfl, hb4⟩
      have st4 := st.keep hb4
      clear n0 n1 n2 n3 ns hb4 st hqp
      by_cases hn : netOkB z qs = true
      · rw [hn]
        clear hn
        go_wp2_with fail
        refine (pick_any 2 rg m c (K + 110) A _ st4.rd (by omega) (by omega) (by omega)).mono ?_
        rintro e w5 ⟨x, rfl, x0, x1, hr5, hg5, hz5⟩
        have st5 := (st4.picked hrg hwn hg5 hr5).more (K' := K + 120) (by omega)
        clear hr5 hg5 hz5 st4
        by_cases hx : x = 0
        · have e0 : (x == 0) = true := by simp [hx]
          clear hx
          go_wp2_with fail
          go_loopw [7] (fun t wr => ∃ (k M c1 : Nat) (A1 : Option Addr), k ≤ M + 2 ∧ M ≤ 8 ∧ t = .int .i64 k ∧ LeastSt w w2.heap.size rg m c (K + 120 + 24 * M) A z (.slice A1 M c1) M wr) (fun t _ => 12 - (intOf t).toNat)
          case atStart => exact ⟨0, L, pc, PA, by omega, hl8, rfl, st5.more (by omega)⟩
          case round =>
            clear st5
            obtain ⟨k, M, c1, A1, hk, hM, rfl, st⟩ := hrel
            obtain ⟨ns, n0, n1, n2, n3⟩ := id st.net
            by_cases hlt : k < M
            · by_cases hM7 : M < 7
              · obtain ⟨A2, c2, e1, ll1, ll2, hc⟩ := st.row.form
                injection e1 with e1 e2 e3
                obtain ⟨-, -, -, -, g, rfl, hgb0, -, -, -, -, -, -⟩ := hc k hlt
                subst e1
                subst e3
                clear hc e2
                have hne5 := st.ne
                have hC0 : laC w w2.heap.size rg m c (K + 120 + 24 * M) A z (.slice (some ⟨g, 0, none⟩) M c1) M 24 { wr with drawn := wr.drawn + 1 } :=
                  ⟨Nat.le_refl _, st.drew.rd, st.drew.gr, st.drew.res, st.net.1, fun _ => st.drew.net, fun _ => st.drew.row⟩
                go_wp2_with fail
                clear n0 n1 n2 n3 ns
                have hMd : decide ((M : Int) < 7) = true := decide_eq_true (by omega)
                rw [hMd]
                clear hMd
                refine wp_region_flowL 24 none [(0, 53), (1, 54), (2, 55), (3, 56), (4, 57), (5, 58), (6, 59), (7, 60), (8, 61), (9, 62), (10, 63), (11, 64), (12, 65), (13, 66), (14, 67), (15, 68), (16, 69), (17, 70), (18, 71), (19, 72), (20, 73), (21, 74), (22, 75)]
                  (fun j x _ wx => laV w w2.heap.size rg g k M c1 z j x wx) (laR rg g) (laC w w2.heap.size rg m c (K + 120 + 24 * M) A z (.slice (some ⟨g, 0, none⟩) M c1) M) (by kernel_rfl) (by kernel_rfl) rfl hC0 ?_ ?_ ?_ ?_
                · clear hC0 st
                  intro i j hi hj hal x u wx wy hR hV
                  have hi' : i < 24 := hi
                  have hj' : j < 24 := hj
                  have h21 : i = 21 → aliveB _ 21 j = true := fun e => by rw [← e]; exact hal
                  have h23 : i = 23 → aliveB _ 23 j = true := fun e => by rw [← e]; exact hal
                  have hg : i ≠ 21 → i ≠ 23 → wx.grownBy wy (some rg) := fun n21 n23 => by
                    unfold laR at hR
                    split at hR
                    · exact absurd rfl n21
                    · exact absurd rfl n23
                    · exact hR
                  by_cases n21 : i = 21
                  · have h21 := h21 n21
                    rcases j with _ | _ | _ | _ | _ | _ | _ | _ | _ | _ | _ | _ | _ | _ | _ | _ | _ | _ | _ | _ | _ | _ | _ | _ | j
                    all_goals first | exact hV | (exfalso; revert h21; decide) | (exfalso; omega)
                  · by_cases n23 : i = 23
                    · have h23 := h23 n23
                      rcases j with _ | _ | _ | _ | _ | _ | _ | _ | _ | _ | _ | _ | _ | _ | _ | _ | _ | _ | _ | _ | _ | _ | _ | _ | j
                      all_goals first | exact hV | (exfalso; revert h23; decide) | (exfalso; omega)
                    · have hb := hg n21 n23
                      have hrw : rg < w.heap.size + 1 := by omega
                      rcases j with _ | _ | _ | _ | _ | _ | _ | _ | _ | _ | _ | _ | _ | _ | _ | _ | _ | _ | _ | _ | _ | _ | _ | _ | j
                      all_goals first | exact hV | exact ⟨hV.1, PRow.grown hV.2 hb hrw⟩ | exact ⟨PRow.grown hV.1 hb hrw, hV.2⟩ | (exfalso; omega) | skip
                      · obtain ⟨q, p, x1, x2, x3, x4⟩ := hV
                        exact ⟨q, p, x1, x2, heap_grown x3 hb (by simp; omega), x4⟩
                      · obtain ⟨S, x1, x2, x3⟩ := hV
                        exact ⟨S, x1.grown hb hrw, x2.grown hb (by simp; omega), x3⟩
                · exact fun _ _ _ _ _ _ _ h => h
                · clear hC0 st
                  simp (maxSteps := 4000000) only [eachOp, fillF, List.setIfInBounds_toArray, List.set_cons_succ, List.set_cons_zero]
                  refine ⟨?_, ?_, ?_, ?_, ?_, ?_, ?_, ?_, ?_, ?_, ?_, ?_, ?_, ?_, ?_, ?_, ?_, ?_, ?_, ?_, ?_, ?_, ?_, ?_, trivial⟩ <;> intro u f wx hC hd hf <;> (try simp [allV, useOf, Region.binds] at hd)
                  · clear hf
                    go_wp2
                    exact ⟨_, rfl, rfl, grow_refl _ _, hC.step hrg hwn⟩
                  · have hf2 : 2 ≤ f := Nat.le_trans (by decide) hf.1
                    clear hf
                    obtain ⟨-, n0, n1, n2, n3⟩ := hC.2.2.2.2.2.1 (by omega)
                    have R := hC.2.2.2.2.2.2 (by omega)
                    rw [show u 0 = _ from hd]
                    go_wp2
                    exact ⟨_, rfl, ⟨rfl, R⟩, grow_refl _ _, hC.step hrg hwn⟩
                  · clear hf
                    go_wp2
                    exact ⟨_, rfl, rfl, grow_refl _ _, hC.step hrg hwn⟩
                  · have hf2 : 2 ≤ f := Nat.le_trans (by decide) hf.1
                    clear hf
                    obtain ⟨-, n0, n1, n2, n3⟩ := hC.2.2.2.2.2.1 (by omega)
                    have R := hC.2.2.2.2.2.2 (by omega)
                    rw [show u 2 = _ from hd]
                    go_wp2
                    exact ⟨_, rfl, ⟨rfl, R⟩, grow_refl _ _, hC.step hrg hwn⟩
                  · clear hf
                    go_wp2
                    exact ⟨_, rfl, rfl, grow_refl _ _, hC.step hrg hwn⟩
                  · clear hf
                    obtain ⟨ha, R⟩ : u 3 = .slice (some ⟨g, 0, none⟩) M c1 ∧ PRow wx (w.heap.size + 1) (.slice (some ⟨g, 0, none⟩) M c1) M := hd.1
                    rw [ha, show u 4 = _ from hd.2]
                    unfold maxLen at ll2
                    go_wp2
                    exact ⟨_, rfl, ⟨rfl, R⟩, grow_refl _ _, hC.step hrg hwn⟩
                  · clear hf
                    obtain ⟨ha, R⟩ : u 5 = .pointer (some ⟨g, k * 5, none⟩) ∧ PRow wx (w.heap.size + 1) (.slice (some ⟨g, 0, none⟩) M c1) M := hd
                    rw [ha]
                    go_wp2
                    exact ⟨_, rfl, ⟨rfl, R⟩, grow_refl _ _, hC.step hrg hwn⟩
                  · clear hf
                    obtain ⟨ha, R⟩ : u 6 = .pointer (some ⟨g, k * 5 + 1, none⟩) ∧ PRow wx (w.heap.size + 1) (.slice (some ⟨g, 0, none⟩) M c1) M := hd
                    obtain ⟨A3, c3, e3, -, -, hc⟩ := R.form
                    injection e3 with e3 e4 e5
                    subst e3
                    subst e5
                    obtain ⟨y2, y0, y1, y3, g3, eg, hgb, hgl, k0, k1, k2, k3, kf, -, -⟩ := hc k hlt
                    injection eg with eg
                    injection eg with eg
                    subst eg
                    clear hc
                    rw [ha]
                    go_wp2
                    exact ⟨_, rfl, ⟨_, rfl⟩, grow_refl _ _, hC.step hrg hwn⟩
                  · clear hf
                    go_wp2
                    exact ⟨_, rfl, rfl, grow_refl _ _, hC.step hrg hwn⟩
                  · have hf2 : 2 ≤ f := Nat.le_trans (by decide) hf.1
                    clear hf
                    obtain ⟨-, n0, n1, n2, n3⟩ := hC.2.2.2.2.2.1 (by omega)
                    have R := hC.2.2.2.2.2.2 (by omega)
                    rw [show u 8 = _ from hd]
                    go_wp2
                    exact ⟨_, rfl, ⟨rfl, R⟩, grow_refl _ _, hC.step hrg hwn⟩
                  · clear hf
                    go_wp2
                    exact ⟨_, rfl, rfl, grow_refl _ _, hC.step hrg hwn⟩
                  · clear hf
                    obtain ⟨ha, R⟩ : u 9 = .slice (some ⟨g, 0, none⟩) M c1 ∧ PRow wx (w.heap.size + 1) (.slice (some ⟨g, 0, none⟩) M c1) M := hd.1
                    rw [ha, show u 10 = _ from hd.2]
                    unfold maxLen at ll2
                    go_wp2
                    exact ⟨_, rfl, ⟨rfl, R⟩, grow_refl _ _, hC.step hrg hwn⟩
                  · clear hf
                    obtain ⟨ha, R⟩ : u 11 = .pointer (some ⟨g, k * 5, none⟩) ∧ PRow wx (w.heap.size + 1) (.slice (some ⟨g, 0, none⟩) M c1) M := hd
                    rw [ha]
                    go_wp2
                    exact ⟨_, rfl, ⟨rfl, R⟩, grow_refl _ _, hC.step hrg hwn⟩
                  · clear hf
                    obtain ⟨ha, R⟩ : u 12 = .pointer (some ⟨g, k * 5, none⟩) ∧ PRow wx (w.heap.size + 1) (.slice (some ⟨g, 0, none⟩) M c1) M := hd
                    obtain ⟨A3, c3, e3, -, -, hc⟩ := R.form
                    injection e3 with e3 e4 e5
                    subst e3
                    subst e5
                    obtain ⟨y2, y0, y1, y3, g3, eg, hgb, hgl, k0, k1, k2, k3, kf, -, -⟩ := hc k hlt
                    injection eg with eg
                    injection eg with eg
                    subst eg
                    clear hc
                    rw [ha]
                    go_wp2
                    exact ⟨_, rfl, ⟨_, rfl⟩, grow_refl _ _, hC.step hrg hwn⟩
                  · clear hf
                    go_wp2
                    exact ⟨_, rfl, rfl, grow_refl _ _, hC.step hrg hwn⟩
                  · clear hf
                    rw [show u 14 = .pointer (some ⟨rg, 0, none⟩) from hd]
                    have f24 := hC.1
                    go_wp2_with fail
                    refine (pick_any 4 rg m c _ A _ hC.2.1 (by omega) (by omega) (by omega)).mono ?_
                    rintro e wy ⟨y, rfl, y0, y1, hry, hgy, hzy⟩
                    go_wp2
                    exact ⟨.int .i64 y, rfl, ⟨y, rfl, y0, y1⟩, hgy, hC.grown hrg hwn hgy hry⟩
                  · clear hf
                    go_wp2
                    exact ⟨_, rfl, rfl, grow_refl _ _, hC.step hrg hwn⟩
                  · clear hf
                    rw [show u 16 = .pointer (some ⟨rg, 0, none⟩) from hd]
                    have f24 := hC.1
                    go_wp2_with fail
                    refine (pick_any 5 rg m c _ A _ hC.2.1 (by omega) (by omega) (by omega)).mono ?_
                    rintro e wy ⟨y, rfl, y0, y1, hry, hgy, hzy⟩
                    go_wp2
                    exact ⟨.int .i64 y, rfl, ⟨y, rfl, y0, y1⟩, hgy, hC.grown hrg hwn hgy hry⟩
                  · clear hf
                    obtain ⟨y, hy, y0, y1⟩ : ∃ y : Int, u 17 = .int .i64 y ∧ 0 ≤ y ∧ y < 5 := hd
                    rw [hy]
                    go_wp2
                    exact ⟨_, rfl, ⟨_, rfl⟩, grow_refl _ _, hC.step hrg hwn⟩
                  · clear hf
                    obtain ⟨hd1, hd2, hd3, hd4⟩ := hd
                    have hi : ∀ j, j = 7 ∨ j = 13 ∨ j = 18 → ∃ y : Int, u j = .int .i64 y := by
                      rintro j (rfl | rfl | rfl)
                      all_goals first | exact hd1 | exact hd2 | exact hd3 | exact hd4
                    obtain ⟨ya, ha⟩ := hi 7 (by simp)
                    obtain ⟨yb, hb⟩ := hi 13 (by simp)
                    obtain ⟨yc, hc, yc0, yc1⟩ : ∃ y : Int, u 15 = .int .i64 y ∧ 0 ≤ y ∧ y < 4 := by first | exact hd1 | exact hd2 | exact hd3 | exact hd4
                    obtain ⟨yd, hdd⟩ := hi 18 (by simp)
                    clear hi hd1 hd2 hd3 hd4
                    rw [ha, hb, hc, hdd]
                    go_wp2
                    exact ⟨_, rfl, ⟨⟨ya, yb, 0, yc, yd⟩, rfl, Int.le_refl _, (show (0 : Int) ≤ 4 by decide), yc0, Int.le_of_lt yc1⟩, grow_refl _ _, hC.step hrg hwn⟩
                  · clear hf
                    obtain ⟨p, hp, hbp⟩ : ∃ p : Pp, u 19 = .agg #[.int .i64 p.fr, .int .i64 p.to, .int .i64 p.le, .int .i64 p.mo, .int .i64 p.co] ∧ bdP p := hd
                    rw [hp]
                    have hrw := hC.2.1.1
                    go_wp2
                    exact ⟨_, rfl, ⟨_, p, rfl, hrw, heap_alloc_new _ _, hbp⟩, grow_alloc (grow_refl _ _) _, hC.made hrg hwn _⟩
                  · have hf2 : f ≤ 2 := Nat.le_trans hf.2 (by decide)
                    clear hf
                    obtain ⟨hda, hdb⟩ := hd
                    obtain ⟨h1u, R⟩ : u 1 = .slice (some ⟨g, 0, none⟩) M c1 ∧ PRow wx (w.heap.size + 1) (.slice (some ⟨g, 0, none⟩) M c1) M := by first | exact hda | exact hdb
                    obtain ⟨hh, p, h20, hrh, hhh, hbp⟩ : ∃ (h : Nat) (p : Pp), u 20 = .slice (some ⟨h, 0, none⟩) 1 1 ∧ rg < h ∧ wx.heap[h]? = some (.cells #[.int .i64 p.fr, .int .i64 p.to, .int .i64 p.le, .int .i64 p.mo, .int .i64 p.co] 33) ∧ bdP p := by first | exact hda | exact hdb
                    clear hda hdb
                    obtain ⟨qs5, hq5, ho5, hbq⟩ := R
                    obtain ⟨c24, cr, cg, cb, cn, cnet, -⟩ := hC
                    have hgb := (ho5.lt g rfl).1
                    have hnet := cnet (by omega)
                    have hgn : g ≠ w2.heap.size := hne5 g rfl
                    refine wpList_append_src rfl (.tmp 54) (.tmp 73) 23 rfl (w.heap.size + 1) 33 i0 _ 5 40 Try.underlying23 hi0 hz0 hz1' hz2' rfl (by omega) (u 1) (u 20) M 1 _ _ rfl rfl (by rw [h1u]; exact ho5) (by rw [h20]; exact lit_src hhh rfl (by simp [Value.oneCell'])) (by unfold maxLen; omega) (by omega) (by have := cg.size; omega) ?_
                    intro r w7 hown7 hg7 hat7
                    rw [h1u] at hg7 hat7
                    replace hg7 : wx.grownBy w7 (some g) := hg7
                    replace hat7 : r.ownBlock = some g ∨ r.ownBlock = some wx.heap.size := hat7
                    refine wpList_nil ⟨r, rfl, ⟨⟨qs5 ++ [p], by rw [List.length_append, hq5]; rfl, by rw [List.flatMap_append]; simpa [Pp.cells] using hown7, hbq.snoc hbp⟩, fun q hq => ?_⟩, hg7, ⟨by omega, (cr.low (below_grow hg7 (by have := cr.1; omega) (fun q hq => by injection hq with hq; omega))).more (by omega), grow_more cg hg7 (fun q hq => .inl (by injection hq with hq; omega)), cb.grown hg7 (by simp; omega), Nat.lt_of_lt_of_le cn hg7.size, fun _ => hnet.grown hg7 (by simp; omega), fun h => absurd h (by omega)⟩⟩
                    rcases hat7 with h7 | h7
                    · rw [h7] at hq
                      injection hq with hq
                      rw [← hq]
                      exact hgn
                    · rw [h7] at hq
                      injection hq with hq
                      omega
                  · clear hf
                    go_wp2
                    exact ⟨_, rfl, rfl, grow_refl _ _, hC.step hrg hwn⟩
                  · have hf0 : f = 0 := Nat.le_zero.1 (Nat.le_trans hf.2 (by decide))
                    clear hf
                    subst hf0
                    obtain ⟨hda, hdb⟩ := hd
                    obtain ⟨R, hne⟩ : PRow wx (w.heap.size + 1) (u 21) (M + 1) ∧ ∀ q, (u 21).ownBlock = some q → q ≠ w2.heap.size := by first | exact hda | exact hdb
                    have h22 : u 22 = .pointer (some ⟨w2.heap.size, 1, none⟩) := by first | exact hda | exact hdb
                    clear hda hdb
                    obtain ⟨c24, cr, cg, cb, cn, cnet, -⟩ := hC
                    have hnet := cnet (by omega)
                    obtain ⟨A9, c9, e9, -, -, -⟩ := R.form
                    rw [e9] at R hne
                    have R2 : PRow (wx.setCell ⟨w2.heap.size, 1, none⟩ (.slice A9 (M + 1) c9)) (w.heap.size + 1) (.slice A9 (M + 1) c9) (M + 1) := by
                      obtain ⟨qs, x1, x2, x3⟩ := R
                      exact ⟨qs, x1, ownsRow_setCell_other x2 (a := ⟨w2.heap.size, 1, none⟩) (fun h => hne _ h rfl) _, x3⟩
                    have hF := Lib.hid (And.intro R2 (And.intro (hnet.set1 (.slice A9 (M + 1) c9)) (And.intro (cr.set (p := ⟨w2.heap.size, 1, none⟩) (by simp; omega) (.slice A9 (M + 1) c9)) (And.intro (grow_set cg (p := ⟨w2.heap.size, 1, none⟩) (.inl (by simp; omega)) (.slice A9 (M + 1) c9)) (cb.far (p := ⟨w2.heap.size, 1, none⟩) (by simp; omega) (.slice A9 (M + 1) c9))))))
                    obtain ⟨ns, n0, n1, n2, n3⟩ := hnet
                    clear R2 R cr cg cb cnet
                    rw [h22, e9]
                    go_wp2
                    exact ⟨undef, rfl, ⟨_, hF.out.1, hF.out.2.1, hne⟩, trivial, ⟨by omega, hF.out.2.2.1.more (by omega), hF.out.2.2.2.1, hF.out.2.2.2.2, by simpa using cn, fun h => absurd h (by omega), fun h => absurd h (by omega)⟩⟩
                · intro u f wx hC hfin
                  obtain ⟨S, x1, x2, x3⟩ : ∃ S, PRow wx (w.heap.size + 1) S (M + 1) ∧ Box2 wx w2.heap.size (.int .i64 z) S ∧ ∀ q, S.ownBlock = some q → q ≠ w2.heap.size := hfin 23 (by decide) (by decide)
                  simp only [fillEnd, fillF, Act.put, List.setIfInBounds_toArray, List.set_cons_succ, List.set_cons_zero]
                  obtain ⟨q1, q2, q3, q4, q5, -, -⟩ := hC
                  obtain ⟨A9, c9, rfl, -, -, -⟩ := id x1.form
                  clear hfin hC0 st
                  go_wp2
                  go_roundw
                  case rel => exact ⟨k + 2, M + 1, c9, A9, by omega, by omega, by go_num, x1, x2, q4, q2.more (by omega), q3, x3⟩
                  case measure => simp [intOf]; omega
              · clear n0 n1 n2 n3 ns
                obtain ⟨ns, n0, n1, n2, n3⟩ := id (st).net
                obtain ⟨bs, b0, b1, b2, b3⟩ := id (st).res
                obtain ⟨qs9, hq1, hq2, hq3⟩ := (st).row.pipes (by omega)
                go_wp2
                refine bodyPost_ret (v := .agg #[.int .i64 z, .slice A1 M c1]) (by simp [results, Try.results55, go_sem, b0, b1]) rfl ⟨z, qs9, .slice A1 M c1, rfl, ?_, ?_, ?_, by omega, by omega, by omega, hq3⟩
                · exact ((hq2.setLow (by simp)).setLow (by simp)).mono (by omega)
                · exact (((st).rd.set (by simp; omega) _).set (by simp; omega) _).more (by omega)
                · exact grow_set (grow_set (st).gr (.inl (Nat.le_refl _)) _) (.inl (Nat.le_refl _)) _
            · clear n0 n1 n2 n3 ns
              obtain ⟨ns, n0, n1, n2, n3⟩ := id (st).net
              obtain ⟨bs, b0, b1, b2, b3⟩ := id (st).res
              obtain ⟨qs9, hq1, hq2, hq3⟩ := (st).row.pipes (by omega)
              go_wp2
              refine bodyPost_ret (v := .agg #[.int .i64 z, .slice A1 M c1]) (by simp [results, Try.results55, go_sem, b0, b1]) rfl ⟨z, qs9, .slice A1 M c1, rfl, ?_, ?_, ?_, by omega, by omega, by omega, hq3⟩
              · exact ((hq2.setLow (by simp)).setLow (by simp)).mono (by omega)
              · exact (((st).rd.set (by simp; omega) _).set (by simp; omega) _).more (by omega)
              · exact grow_set (grow_set (st).gr (.inl (Nat.le_refl _)) _) (.inl (Nat.le_refl _)) _
        · have e0 : (x == 0) = false := by simp [hx]
          obtain ⟨ns, n0, n1, n2, n3⟩ := id (st5).net
          obtain ⟨bs, b0, b1, b2, b3⟩ := id (st5).res
          obtain ⟨qs9, hq1, hq2, hq3⟩ := (st5).row.pipes (by omega)
          go_wp2
          refine bodyPost_ret (v := .agg #[.int .i64 z, .slice PA L pc]) (by simp [results, Try.results55, go_sem, b0, b1]) rfl ⟨z, qs9, .slice PA L pc, rfl, ?_, ?_, ?_, by omega, by omega, by omega, hq3⟩
          · exact ((hq2.setLow (by simp)).setLow (by simp)).mono (by omega)
          · exact (((st5).rd.set (by simp; omega) _).set (by simp; omega) _).more (by omega)
          · exact grow_set (grow_set (st5).gr (.inl (Nat.le_refl _)) _) (.inl (Nat.le_refl _)) _
      · have hn' : netOkB z qs = false := by simpa using hn
        rw [hn']
        obtain ⟨ns, n0, n1, n2, n3⟩ := id (st4).net
        obtain ⟨bs, b0, b1, b2, b3⟩ := id (st4).res
        obtain ⟨qs9, hq1, hq2, hq3⟩ := (st4).row.pipes (by omega)
        go_wp2
        refine bodyPost_ret (v := .agg #[.int .i64 z, .slice PA L pc]) (by simp [results, Try.results55, go_sem, b0, b1]) rfl ⟨z, qs9, .slice PA L pc, rfl, ?_, ?_, ?_, by omega, by omega, by omega, hq3⟩
        · exact ((hq2.setLow (by simp)).setLow (by simp)).mono (by omega)
        · exact (((st4).rd.set (by simp; omega) _).set (by simp; omega) _).more (by omega)
        · exact grow_set (grow_set (st4).gr (.inl (Nat.le_refl _)) _) (.inl (Nat.le_refl _)) _

theorem l20Least_any (n : Int) (rg m c K : Nat) (A : Option Addr) (w : World) (h : Rd w rg A m c K) (hK : K ≤ 50000) (h1 : 1 ≤ n) (h2 : n ≤ 1000) :
    Calls Try.prog 55 #[.pointer (some ⟨rg, 0, none⟩), .int .i64 n] w fun e w' => ∃ (z : Int) (ps : List Pp) (v : Value), e = .returned (.agg #[.int .i64 z, v]) ∧ Pipes w' w.heap.size v ps ∧ Rd w' rg A m c (K + 400) ∧ w.grownBy w' (some rg) ∧ ps.length ≤ 8 ∧ 1 ≤ z ∧ z ≤ 6 :=
  (l20Least_bd n rg m c K A w h hK h1 h2).mono fun _ _ ⟨z, ps, v, q1, q2, q3, q4, q5, q6, q7, _⟩ => ⟨z, ps, v, q1, q2, q3, q4, q5, q6, q7⟩

end Go.Proofs.Ytphbmlephldaaaa
