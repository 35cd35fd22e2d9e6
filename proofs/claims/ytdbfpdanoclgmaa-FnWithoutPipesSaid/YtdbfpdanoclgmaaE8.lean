/- Contract of the draw of chapter 11: a net and places of pipes. -/
import Derived.Test.YtdbfpdanoclgmaaD6
import Derived.Test.YtdbfpdanoclgmaaF1
import Derived.Test.YtdbfpdanoclgmaaF2
import Derived.Test.YtdbfpdanoclgmaaRW
import Derived.Deep.AppendLies
namespace Go.Proofs.Ytdbfpdanoclgmaa
open Go.RowKit

set_option maxRecDepth 20000 in
set_option maxHeartbeats 8000000 in
set_option maxRecDepth 20000 in
theorem drawWithoutPipes_any (v : Value) (n : Nat) (w : World) (h : ArgBytes w v n) : Calls Try.prog 30 #[v] w (DrawnFlow w) := by
  obtain ⟨i0, hi0, hz0, hz1', hz2⟩ := info_parts int_info
  have bx0 := Box2.new w (.int .i64 0) (.slice none 0 0) 28
  go_enter Try.func30, Try.ntmps30
  go_wp2_with fail
  refine (l20Open_any v n _ (h.keep (by (repeat (first | (with_reducible assumption) | (with_reducible exact Below.refl _ _) | ((with_reducible refine Below.alloc ?_ ?hsz _); (case hsz => (first | omega | (simp; done) | (simp; omega) | (simp at *; omega)))) | ((with_reducible refine Below.setCell ?_ ?hsz _); (case hsz => (first | omega | (simp; done) | (simp; omega) | (simp at *; omega)))) | (with_reducible refine Below.drew ?_) | (with_reducible refine below_drewN ?_ _) | ((with_reducible refine Below.trans ?_ (Below.mono (by with_reducible assumption) ?hsz)); (case hsz => (first | omega | (simp; done) | (simp; omega) | (simp at *; omega))))))))).mono ?_
  rintro e w1 ⟨A, m, c, rfl, hr1, hb1, hz1⟩
  have bx1 := bx0.keep (hb1.mono (by simp))
  rw [World.size_alloc] at hr1 hz1
  have hgo : Below w.heap.size w w1 := by (repeat (first | (with_reducible assumption) | (with_reducible exact Below.refl _ _) | ((with_reducible refine Below.alloc ?_ ?hsz _); (case hsz => (first | omega | (simp; done) | (simp; omega) | (simp at *; omega)))) | ((with_reducible refine Below.setCell ?_ ?hsz _); (case hsz => (first | omega | (simp; done) | (simp; omega) | (simp at *; omega)))) | (with_reducible refine Below.drew ?_) | (with_reducible refine below_drewN ?_ _) | ((with_reducible refine Below.trans ?_ (Below.mono (by with_reducible assumption) ?hsz)); (case hsz => (first | omega | (simp; done) | (simp; omega) | (simp at *; omega))))))
  go_wp2_with fail
  with_reducible refine (l20Net_any 12 (w.heap.size + 1) m c 0 A _ hr1 (by omega) (by omega) (by omega)).mono ?_
  rintro e w2 ⟨z, ps, u, rfl, hp2, hr2, hg2, hl8, hzl, hzh⟩
  have bx2 := bx1.grown hg2 (by simp)
  have hs2 := hg2.size
  have hb2 : Below w.heap.size w w2 := hgo.trans (below_grow hg2 (by omega) (fun q hq => by injection hq with hq; omega))
  obtain ⟨PA, pc, rfl, hc1, hc2, hsm, -⟩ := hp2.form
  unfold maxLen at hc2
  obtain ⟨L, hL⟩ : ∃ L, ps.length = L := ⟨_, rfl⟩
  have HL := Lib.hid hL
  rw [hL] at hl8 hp2 hc1 hsm ⊢
  clear hL
  obtain ⟨rg, hrgd⟩ : ∃ rg, w.heap.size + 1 = rg := ⟨_, rfl⟩
  rw [hrgd] at hr2
  obtain ⟨W3, hW3⟩ : ∃ W, W = w2.alloc (.cells #[.int .i64 z, .slice PA L pc] 28) := ⟨_, rfl⟩
  have hb3 : Below w2.heap.size w2 W3 := by rw [hW3]; (repeat (first | (with_reducible assumption) | (with_reducible exact Below.refl _ _) | ((with_reducible refine Below.alloc ?_ ?hsz _); (case hsz => (first | omega | (simp; done) | (simp; omega) | (simp at *; omega)))) | ((with_reducible refine Below.setCell ?_ ?hsz _); (case hsz => (first | omega | (simp; done) | (simp; omega) | (simp at *; omega)))) | (with_reducible refine Below.drew ?_) | (with_reducible refine below_drewN ?_ _) | ((with_reducible refine Below.trans ?_ (Below.mono (by with_reducible assumption) ?hsz)); (case hsz => (first | omega | (simp; done) | (simp; omega) | (simp at *; omega))))))
  have hz3 : W3.heap.size = w2.heap.size + 1 := by rw [hW3]; simp
  have nb3 : Box2 W3 w2.heap.size (.int .i64 z) (.slice PA L pc) := by rw [hW3]; exact Box2.new _ _ _ _
  have hr3 := hr2.keep hb3
  have hp3 := hp2.keep hb3
  have bx3 := bx2.keep hb3
  obtain ⟨nb, hnbd⟩ : ∃ nb, w2.heap.size = nb := ⟨_, rfl⟩
  have hBw3 : Below w.heap.size w W3 := hb2.trans (hb3.mono (by omega))
  have hz1w := hb2.size
  have hs22 := hz1
  obtain ⟨W4, hW4⟩ : ∃ W, W = W3.alloc (.cells #[] 3) := ⟨_, rfl⟩
  have hR4 : Row W4 W3.heap.size W3.heap.size 0 0 [] := by
    rw [hW4]
    exact ⟨World.ownsRow_lit (e := 3) (base := W3.heap.size) (size := 1) W3 #[] 0 (Nat.le_refl _) (by simp [maxLen]) rfl, by simp [small]⟩
  have hg34 : W3.grownBy W4 (some rg) := by rw [hW4]; exact grow_alloc (grow_refl W3 _) _
  have hr4 : Rd W4 rg A m c (0 + 100) := by rw [hW4]; exact hr3.alloc' _
  have hrw : rg < W3.heap.size := hr3.1
  have hg1e : w2.heap.size + 1 = W3.heap.size := hz3.symm
  clear bx1 bx2 hp2 hr2
  go_wp2_with fail
  rw [← hW3, ← hW4]
  refine (pick_any 4 rg m c _ A _ hr4 (by omega) (by omega) (by omega)).mono ?_
  rintro e w5 ⟨x, rfl, x0, x1, hr5, hg5, hz5⟩
  have hg35 : W3.grownBy w5 (some rg) := grow_more hg34 hg5 (fun q hq => .inr hq)
  have hR5 := hR4.grown hg5 (by have := hR4.lt; intro e; injection e with e; omega)
  obtain ⟨x, rfl⟩ : ∃ q : Nat, x = (q : Int) := ⟨x.toNat, by omega⟩
  clear hr4 hR4 hg34 hg5 hz5 hW3 hW4
  have hge : nb + 1 = W3.heap.size := by omega
  have hR5' : Row w5 W3.heap.size (nb + 1) 0 0 [] := by rw [hge]; exact hR5
  clear hR5 hge
  go_wp2_with fail
  go_loopw [7, 6] (fun a o wr => ∃ (q k g1 c1 : Nat) (xs : List Int), k + q ≤ 3 ∧ a = .int .i64 (q : Int) ∧ o = .slice (some ⟨g1, 0, none⟩) k c1 ∧ W3.grownBy wr (some rg) ∧ Rd wr rg A m c (200 + 20 * k) ∧ Row wr W3.heap.size g1 k c1 xs) (fun a _ _ => (intOf a).toNat)
  case atStart => exact ⟨x, 0, nb + 1, 0, [], by omega, rfl, rfl, hg35, hr5.more (by omega), hR5'⟩
  case round =>
    clear hg35 hR5' hr5
    obtain ⟨q, k, g1, c1, xs, hkq, rfl, rfl, hgr, hrd, hR⟩ := hrel
    have nbr := nb3.grown hgr (by intro e; injection e with e; omega)
    have bxr := bx3.grown hgr (by intro e; injection e with e; omega)
    have hpr := hp3.grown hgr (by omega)
    have hszr := hgr.size
    obtain ⟨ns, n0, n1, n2, n3⟩ := id nbr
    obtain ⟨bs, b0, b1, b2, b3⟩ := id bxr
    rw [hnbd] at ns n0 n1 n2 n3 nbr
    by_cases hq0 : 0 < q
    · obtain ⟨q, rfl⟩ : ∃ q', q = q' + 1 := ⟨q - 1, by omega⟩
      have hqd : decide ((0 : Int) < ((q + 1 : Nat) : Int)) = true := decide_eq_true (by omega)
      have hqd2 : decide ((0 : Int) < (q : Int) + 1) = true := decide_eq_true (by omega)
      have hk8 : k ≤ 8 := by omega
      clear bxr hpr b0 b1 b2 b3 bs hq0 nbr
      have hrl := hR.lt
      go_wp2_with fail
      all_goals
        refine (pick_any _ rg m c _ A _ hrd (by omega) (by omega) (by omega)).mono ?_
        rintro e w7 ⟨y, rfl, y0, y1, hr7, hg7, hz7⟩
        have hR7 := hR.grown hg7 (by intro e; injection e with e; omega)
        have hgr7 : W3.grownBy w7 (some rg) := grow_more hgr hg7 (fun q hq => .inr hq)
        have hs7 := hg7.size
        have y8 : y ≤ 7 := by omega
        go_wp2_with fail
        refine (pick_any 30 rg m c _ A _ hr7 (by omega) (by omega) (by omega)).mono ?_
        rintro e w8 ⟨y2, rfl, y20, y21, hr8, hg8, hz8⟩
        have hR8 := hR7.grown hg8 (by intro e; injection e with e; omega)
        have hgr8 : W3.grownBy w8 (some rg) := grow_more hgr7 hg8 (fun q hq => .inr hq)
        have hs8 := hg8.size
        have ht : y2.tdiv 29 = y2 / 29 := Int.tdiv_eq_ediv_of_nonneg y20
        obtain ⟨y3, hy3⟩ : ∃ y3, y2 / 29 = y3 := ⟨_, rfl⟩
        have y30 : 0 ≤ y3 ∧ y3 ≤ 1 := by omega
        rw [hy3] at ht
        have hw0 : IntKind.i64.wrap y3 = y3 := IntWalk.i64_in _ (by omega)
        have hw : IntKind.i64.wrap (y + y3) = y + y3 := IntWalk.i64_in _ (by omega)
        have hcap := hR8.capd
        unfold maxLen at hcap
        have hrow : ∀ q, (Value.slice (some ⟨g1, 0, none⟩) k c1).ownBlock = some q → W3.heap.size ≤ q := fun q hq => (hR8.1.lt q hq).1
        have hlt8 := hR8.lt
        clear hR hR7 hg7 hg8 hr7 hgr hgr7 hrd n0 n1 n2 n3 ns hy3 hz7 hz8
        go_wp2_with (first
          | (at_builtin
             go_must (refine wpList_append_lies _ rfl _ _ 34 rfl W3.heap.size 3 i0 _ 1 8 Try.underlying34 hi0 hz0 hz1' hz2 rfl (by omega) _ k _ rfl (hR8.1.alloc _) ⟨w8.heap.size, 0, none⟩ 1 1 [.int .i64 (y + y3)] rfl rfl (World.news_of_block (cs := #[.int .i64 (y + y3)]) (t := 3) (fr := (0, 0)) (heap_alloc_new _ _)) (by simp [Value.oneCell']) (by omega) (by unfold maxLen; omega) (by omega) (by simp; omega) _ rfl ?_)
             intro g2 k2 w9 hown9 hgr9 hat9 hlt9))
        have hR9 : Row w9 W3.heap.size g2 (k + 1) k2 (xs ++ [y + y3]) := ⟨by rw [List.map_append]; exact hown9, by unfold small; omega⟩
        have hg9 : W3.grownBy w9 (some rg) := grow_more (grow_alloc hgr8 _) hgr9 (fun q hq => .inl (hrow q hq))
        have hr9 : Rd w9 rg A m c _ := (hr8.alloc' (.cells #[.int .i64 (y + y3)] 3)).low (below_grow hgr9 (by simp; omega) (fun q hq => by have := hrow q hq; omega))
        clear hown9 hgr9 hat9 hlt9 hr8 hgr8 hR8
        go_roundw
        case rel => exact ⟨q, k + 1, g2, k2, _, by omega, by go_num, rfl, hg9, hr9.more (by omega), hR9⟩
        case measure => simp [intOf]
    · obtain rfl : q = 0 := by omega
      have hI := hR.ints
      have HI := Lib.hid hI
      have hBr : Below w.heap.size w wr := hBw3.trans (below_grow hgr (by omega) (fun q hq => by injection hq with hq; omega))
      clear hR hI hrd hgr nbr
      go_wp2
      refine bodyPost_ret (v := .tuple #[.agg #[.int .i64 z, .slice PA L pc], .slice (some ⟨g1, 0, none⟩) k c1]) (by simp [results, Try.results30, go_sem, b0, b1]) rfl ⟨z, ps, _, xs, _, rfl, ?_, ?_, ?_, by rw [HL.out]; exact hl8, hzl, hzh⟩
      · exact ((hpr.setLow (by simp; omega)).setLow (by simp; omega)).mono (by omega)
      · exact ((HI.out.setLow (by simp; omega)).setLow (by simp; omega)).mono (by omega)
      · (repeat (first | (with_reducible assumption) | (with_reducible exact Below.refl _ _) | ((with_reducible refine Below.alloc ?_ ?hsz _); (case hsz => (first | omega | (simp; done) | (simp; omega) | (simp at *; omega)))) | ((with_reducible refine Below.setCell ?_ ?hsz _); (case hsz => (first | omega | (simp; done) | (simp; omega) | (simp at *; omega)))) | (with_reducible refine Below.drew ?_) | (with_reducible refine below_drewN ?_ _) | ((with_reducible refine Below.trans ?_ (Below.mono (by with_reducible assumption) ?hsz)); (case hsz => (first | omega | (simp; done) | (simp; omega) | (simp at *; omega))))))

end Go.Proofs.Ytdbfpdanoclgmaa
