/- Contracts of the draws: amounts that go round in a net. -/
import Derived.Test.YtphbmlephldaaaaD2
import Derived.Test.YtphbmlephldaaaaMG
namespace Go.Proofs.Ytphbmlephldaaaa
open Go.RowKit

theorem Ints.grown {w w' : World} {b : Nat} {v : Value} {xs : List Int} (h : Ints w b v xs) {rg : Nat} (hg : w.grownBy w' (some rg)) (hr : rg < b) : Ints w' b v xs :=
  ⟨own_grow h.1 hg (fun q hq => by injection hq with hq; omega), h.2⟩
theorem Pipes.grown {w w' : World} {b : Nat} {v : Value} {ps : List Pp} (h : Pipes w b v ps) {rg : Nat} (hg : w.grownBy w' (some rg)) (hr : rg < b) : Pipes w' b v ps :=
  ⟨own_grow h.1 hg (fun q hq => by injection hq with hq; omega), h.2⟩

theorem news_cells {w : World} {b n size g cap : Nat} {e : TypeId} {xs : List Value} (h : w.ownsRow b e size (.slice (some ⟨g, 0, none⟩) n cap) n xs) : ∀ j u, xs[j]? = some u → w.cell? ((⟨g, 0, none⟩ : Addr).add j) = some u :=
  h.cells rfl

theorem Pipes.at' {w : World} {b n c : Nat} {A : Option Addr} {ps : List Pp} (h : Pipes w b (.slice A n c) ps) (k : Nat) (hk : k < ps.length) : ∃ g, A = some ⟨g, 0, none⟩ ∧ b ≤ g ∧ g < w.heap.size ∧
      w.cell? ⟨g, k * 5, none⟩ = some (.int .i64 ps[k].fr) ∧ w.cell? ⟨g, k * 5 + 1, none⟩ = some (.int .i64 ps[k].to) ∧ w.cell? ⟨g, k * 5 + 2, none⟩ = some (.int .i64 ps[k].le) ∧
      w.cell? ⟨g, k * 5 + 3, none⟩ = some (.int .i64 ps[k].mo) ∧ w.cell? ⟨g, k * 5 + 4, none⟩ = some (.int .i64 ps[k].co) := by
  obtain ⟨A', c', e, -, -, -, hc⟩ := h.form
  injection e with e1 e2 e3
  subst e1
  exact hc w (Below.refl _ _) k hk
theorem Ints.at' {w : World} {b n c : Nat} {A : Option Addr} {xs : List Int} (h : Ints w b (.slice A n c) xs) (k : Nat) (hk : k < xs.length) : ∃ g, A = some ⟨g, 0, none⟩ ∧ b ≤ g ∧ g < w.heap.size ∧
      w.cell? ⟨g, k, none⟩ = some (.int .i64 xs[k]) ∧ w.frozen? ⟨g, k, none⟩ = false := by
  obtain ⟨A', c', e, -, -, -, hc⟩ := h.form
  injection e with e1 e2 e3
  subst e1
  exact hc w (Below.refl _ _) k hk

set_option maxRecDepth 20000 in
set_option maxHeartbeats 4000000 in
set_option maxRecDepth 20000 in
theorem l20Round_any (z : Int) (v : Value) (ps : List Pp) (b rg m c K : Nat) (A : Option Addr) (w : World) (h : Rd w rg A m c K) (hK : K ≤ 50000) (hp : Pipes w b v ps) (hrb : rg < b) (hok : netOkB z ps = true) :
    Calls Try.prog 108 #[.pointer (some ⟨rg, 0, none⟩), .agg #[.int .i64 z, v]] w fun e w' => ∃ (g k1 : Nat) (xs : List Int), e = .returned (.slice (some ⟨g, 0, none⟩) ps.length k1) ∧ Ints w' w.heap.size (.slice (some ⟨g, 0, none⟩) ps.length k1) xs ∧ xs.length = ps.length ∧ Rd w' rg A m c (K + 100) ∧ w.grownBy w' (some rg) := by
  have hrg := h.1
  obtain ⟨hn2, hn5, hl7, -⟩ := netOk_parts hok
  clear hok
  have hp0 := hp
  obtain ⟨PA, pc, rfl, hc1, hc2, hs, -⟩ := hp.form
  unfold maxLen at hc2
  have hmk := fun W => run_make_ints hs W
  obtain ⟨i0, hi0, hz0, hz1', hz2'⟩ := info_parts int_info
  go_enter Try.func108, Try.ntmps108
  go_wp2_with fail
  refine (pick_any 4 rg m c K A _ (h.keep (by (repeat (first | (with_reducible assumption) | (with_reducible exact Below.refl _ _) | ((with_reducible refine Below.alloc ?_ ?hsz _); (case hsz => (first | omega | (simp; done) | (simp; omega) | (simp at *; omega)))) | ((with_reducible refine Below.setCell ?_ ?hsz _); (case hsz => (first | omega | (simp; done) | (simp; omega) | (simp at *; omega)))) | (with_reducible refine Below.drew ?_) | (with_reducible refine below_drewN ?_ _) | ((with_reducible refine Below.trans ?_ (Below.mono (by with_reducible assumption) ?hsz)); (case hsz => (first | omega | (simp; done) | (simp; omega) | (simp at *; omega)))))))) (by omega) (by omega) (by omega)).mono ?_
  rintro e w1 ⟨x, rfl, x0, x1, hr1, hg1, hz1⟩
  simp at hz1
  have bx1 : Box2 w1 w.heap.size (.int .i64 z) (.slice PA ps.length pc) := ((Box2.new w _ _ 25).keep (by (repeat (first | (with_reducible assumption) | (with_reducible exact Below.refl _ _) | ((with_reducible refine Below.alloc ?_ ?hsz _); (case hsz => (first | omega | (simp; done) | (simp; omega) | (simp at *; omega)))) | ((with_reducible refine Below.setCell ?_ ?hsz _); (case hsz => (first | omega | (simp; done) | (simp; omega) | (simp at *; omega)))) | (with_reducible refine Below.drew ?_) | (with_reducible refine below_drewN ?_ _) | ((with_reducible refine Below.trans ?_ (Below.mono (by with_reducible assumption) ?hsz)); (case hsz => (first | omega | (simp; done) | (simp; omega) | (simp at *; omega)))))))).grown hg1 (by simp; omega)
  have hgw1 : w.grownBy w1 (some rg) := grow_more (grow_alloc (grow_alloc (grow_refl w _) _) _) hg1 (fun q hq => .inr hq)
  have hown1 : w1.ownsRow (w.heap.size + 1) 3 1 (.slice (some ⟨w.heap.size + 1, 0, none⟩) ps.length ps.length) ps.length ((List.replicate ps.length (0 : Int)).map (Value.int .i64)) := by
    have h := made_ints (w.alloc (.cells #[.int .i64 z, .slice PA ps.length pc] 25)) ps.length 3 (w.heap.size + 1) (by simp) hs
    rw [World.size_alloc] at h
    exact own_grow h hg1 (fun q hq => by injection hq with hq; omega)
  clear hg1 hmk hp
  go_wp2_with fail
  go_loopw [6, 5] (fun t f wr => ∃ (j g k1 : Nat) (xs : List Int), t = .int .i64 j ∧ j ≤ 3 ∧ f = .slice (some ⟨g, 0, none⟩) ps.length k1 ∧ xs.length = ps.length ∧
      wr.ownsRow (w.heap.size + 1) 3 1 (.slice (some ⟨g, 0, none⟩) ps.length k1) ps.length (xs.map (Value.int .i64)) ∧ Rd wr rg A m c (K + 1 + 8 * (3 - j)) ∧ w.grownBy wr (some rg) ∧ Box2 wr w.heap.size (.int .i64 z) (.slice PA ps.length pc)) (fun t _ _ => (intOf t).toNat)
  case atStart => exact ⟨x.toNat, _, _, List.replicate ps.length 0, by rw [Int.toNat_of_nonneg x0], by omega, rfl, by simp, hown1, hr1.more (by omega), hgw1, bx1⟩
  case round =>
    obtain ⟨j, g, k1, xs, rfl, hj3, rfl, hxl, hown, hr, hg, bx⟩ := hrel
    clear hr1 hgw1 bx1 hown1
    have Hxl := Lib.hid hxl
    clear hxl
    obtain ⟨hbz, b0, b1, bf0, bf1⟩ := id bx
    by_cases hj : 0 < j
    · by_cases hn : 0 < ps.length
      · obtain ⟨wo, hwo⟩ : ∃ wo : World, wo = wr := ⟨_, rfl⟩
        subst hwo
        have hgb := (hown.lt g rfl)
        have hlit : (wo.alloc (.cells #[] 3)).ownsRow wo.heap.size 3 1 (.slice (some ⟨wo.heap.size, 0, none⟩) 0 0) 0 [] := World.ownsRow_lit (e := 3) (base := wo.heap.size) (size := 1) wo #[] 0 (Nat.le_refl _) (by simp [maxLen]) rfl
        have hsrc := hown.alloc (.cells #[] 3)
        go_wp2_with (first
          | (at_builtin
             go_must (refine wpList_append_lies _ rfl _ _ 40 rfl wo.heap.size 3 i0 _ 1 8 Try.underlying40 hi0 hz0 hz1' hz2' rfl (by omega) _ 0 [] rfl hlit ⟨g, 0, none⟩ ps.length k1 (xs.map (Value.int .i64)) rfl (by simp; exact Hxl.out) (news_cells hsrc) (by simp [Value.oneCell']) hn (by unfold maxLen; omega) (by omega) (by simp) _ rfl ?_)
             intro g2 k2 w7 hown7 hgr7 hat7 hlt7
             go_must (have hb7 : Below wo.heap.size wo w7 := Below.grown (w := wo.alloc (.cells #[] 3)) (by (repeat (first | (with_reducible assumption) | (with_reducible exact Below.refl _ _) | ((with_reducible refine Below.alloc ?_ ?hsz _); (case hsz => (first | omega | (simp; done) | (simp; omega) | (simp at *; omega)))) | ((with_reducible refine Below.setCell ?_ ?hsz _); (case hsz => (first | omega | (simp; done) | (simp; omega) | (simp at *; omega)))) | (with_reducible refine Below.drew ?_) | (with_reducible refine below_drewN ?_ _) | ((with_reducible refine Below.trans ?_ (Below.mono (by with_reducible assumption) ?hsz)); (case hsz => (first | omega | (simp; done) | (simp; omega) | (simp at *; omega))))))) hgr7 (by (first | omega | (simp; done) | (simp; omega) | (simp at *; omega))) (fun q hq => by injection hq with hq; exact Nat.le_of_eq hq))
             have bx7 := bx.keep hb7
             obtain ⟨bz7, c0, c1, cf0, cf1⟩ := id bx7)
          | (go_at_call 61
             go_must (with_reducible refine (pick_any _ rg m c _ A _ (hr.keep hb7) (by omega) (by omega) (by omega)).mono ?_)
             rintro e w8 ⟨st, rfl, st0, st1, hr8, hg8, hz8⟩))
        have hgr8 : w7.grownBy w8 (some rg) := hg8
        have hown8 := own_grow hown7 hg8 (fun q hq => by injection hq with hq; omega)
        have hflow8 := own_grow (own_keep hown (Nat.le_refl _) hb7) hg8 (fun q hq => by injection hq with hq; omega)
        have bx8 := bx7.grown hg8 (by simp; omega)
        have hgw8 : w.grownBy w8 (some rg) := grow_more (grow_below hg hb7) hg8 (fun q hq => .inr hq)
        have hz78 : w8.heap.size = w7.heap.size := hz8
        simp only [List.nil_append, Nat.zero_add] at hown8
        clear b0 b1 bf0 bf1 c0 c1 cf0 cf1 hgr8 hg8 hr hown bx bx7 hlit hsrc hown7 hgr7 hat7
        go_loopw [10, 9, 5] (fun s nw f wr => ∃ (q : Nat) (y : Int) (ys : List Int), s = .int .i64 q ∧ q ≤ 6 ∧ nw = .int .i64 y ∧ f = .slice (some ⟨g, 0, none⟩) ps.length k1 ∧ ys.length = ps.length ∧
          wr.ownsRow wo.heap.size 3 1 (.slice (some ⟨g2, 0, none⟩) ps.length k2) ps.length (ys.map (Value.int .i64)) ∧
          wr.ownsRow (w.heap.size + 1) 3 1 (.slice (some ⟨g, 0, none⟩) ps.length k1) ps.length (xs.map (Value.int .i64)) ∧
          Rd wr rg A m c (K + 1 + 8 * (3 - j) + 1 + q) ∧ w.grownBy wr (some rg) ∧ Box2 wr w.heap.size (.int .i64 z) (.slice PA ps.length pc)) (fun s _ _ _ => 6 - (intOf s).toNat)
        case atStart => exact ⟨0, st, xs, rfl, by omega, rfl, rfl, Hxl.out, hown8, hflow8, hr8, hgw8, bx8⟩
        case round =>
          obtain ⟨q, y, ys, rfl, hq6, rfl, rfl, hyl, hown, hflow, hr, hg, bx⟩ := hrel
          clear hr8 hgw8 bx8 hown8 hflow8
          have Hyl := Lib.hid hyl
          clear hyl
          obtain ⟨hbz, b0, b1, bf0, bf1⟩ := id bx
          have hwoz : wo.heap.size ≤ g2 := (hown.lt g2 rfl).1
          by_cases hq : q < 6
          · go_wp2_with (first
              | (go_at_call 61
                 go_must (with_reducible refine (pick_any _ rg m c _ A _ hr (by omega) (by omega) (by omega)).mono ?_)
                 rintro e w9 ⟨at0, rfl, at00, at01, hr9, hg9, hz9⟩))
            have hown9 := own_grow hown hg9 (fun q hq => by injection hq with hq; omega)
            have hflow9 := own_grow hflow hg9 (fun q hq => by injection hq with hq; omega)
            have bx9 := bx.grown hg9 (by simp; omega)
            have hgw9 : w.grownBy w9 (some rg) := grow_more hg hg9 (fun q hq => .inr hq)
            have hP9 := hp0.grown hgw9 hrb
            clear hg9 hown hflow bx b0 b1 bf0 bf1 hg hr
            obtain ⟨hbz9, b0, b1, bf0, bf1⟩ := id bx9
            go_loopw [12, 11] (fun i t wr => ∃ (kk a : Nat), kk ≤ ps.length ∧ i = .int .i64 kk ∧ a < ps.length ∧ t = .int .i64 a ∧ wr = w9) (fun i _ _ => ps.length - (intOf i).toNat)
            case atStart => exact ⟨0, at0.toNat, by omega, rfl, by omega, by rw [Int.toNat_of_nonneg at00], rfl⟩
            case round =>
              obtain ⟨kk, a, hkk, rfl, ha, rfl, rfl⟩ := hrel
              obtain ⟨gp, rfl, hgp1, hgp2, p0, p1, -, -, -⟩ := hP9.at' a ha
              obtain ⟨yv, hyv⟩ : ∃ yv : Int, (ys.map (Value.int .i64))[a]? = some (.int .i64 yv) := ⟨ys[a]'(by have := Hyl.out; omega), by simp [Hyl.out, ha]⟩
              have y0 := (hown9.cellAt a (by omega)).trans hyv
              have y1 := hown9.frozenAt a
              have hset := (hown9.stored a (.int .i64 (wrap64 (yv + 1)))).1
              rw [← List.map_set] at hset
              by_cases hf : ps[a].fr = y
              · have hf' : (ps[a].fr != y) = false := by simp [hf]
                clear hf
                by_cases hst : ps[a].to = st
                · have hst' : (ps[a].to == st) = true := by simp [hst]
                  clear hst
                  by_cases hk : kk < ps.length
                  all_goals
                    go_wp2
                    go_roundw
                    case rel => exact ⟨j - 1, g2, k2, ys.set a (wrap64 (yv + 1)), by congr 1; omega, by omega, rfl, by simp; exact Hyl.out, own_mono hset (by omega), (hr9.set (by simp; omega) _).more (by omega), grow_set hgw9 (.inl (by simp; omega)) _, bx9.far (by simp; omega) _⟩
                    case measure => simp [intOf]; omega
                · have hst' : (ps[a].to == st) = false := by simp [hst]
                  clear hst
                  by_cases hk : kk < ps.length
                  all_goals
                    go_wp2
                    go_roundw
                    case rel => exact ⟨q + 1, ps[a].to, ys.set a (wrap64 (yv + 1)), by go_num, by omega, rfl, rfl, by simp; exact Hyl.out, hset, ownsRow_setCell_other hflow9 (a := ⟨g2, a, none⟩) (by simp [Value.ownBlock]; omega) _, (hr9.set (by simp; omega) _).more (by omega), grow_set hgw9 (.inl (by simp; omega)) _, bx9.far (by simp; omega) _⟩
                    case measure => simp [intOf]; omega
              · have hf' : (ps[a].fr != y) = true := by rw [bne_iff_ne]; exact hf
                clear hf
                by_cases hk : kk < ps.length
                · go_wp2
                  go_roundw
                  case rel => exact ⟨kk + 1, (a + 1) % ps.length, by omega, by go_num, Nat.mod_lt _ hn, by rw [Int.natCast_emod]; rfl, trivial⟩
                  case measure => simp [intOf]; omega
                · go_wp2
                  go_roundw
                  case rel => exact ⟨j - 1, g, k1, xs, by congr 1; omega, by omega, rfl, Hxl.out, hflow9, hr9.more (by omega), hgw9, bx9⟩
                  case measure => simp [intOf]; omega
          · go_wp2
            go_roundw
            case rel => exact ⟨j - 1, g, k1, xs, by congr 1; omega, by omega, rfl, Hxl.out, hflow, hr.more (by omega), hg, bx⟩
            case measure => simp [intOf]; omega
      · go_wp2
        go_ret
        exact ⟨g, k1, xs, rfl, ⟨by rw [Hxl.out]; exact own_mono hown (by omega), by rw [Hxl.out]; unfold small; omega⟩, Hxl.out, hr.more (by omega), hg⟩
    · go_wp2
      go_ret
      exact ⟨g, k1, xs, rfl, ⟨by rw [Hxl.out]; exact own_mono hown (by omega), by rw [Hxl.out]; unfold small; omega⟩, Hxl.out, hr.more (by omega), hg⟩

end Go.Proofs.Ytphbmlephldaaaa
