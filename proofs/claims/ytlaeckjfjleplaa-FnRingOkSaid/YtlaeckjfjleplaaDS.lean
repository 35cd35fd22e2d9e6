/- Contracts of the laws' draws, chapter 4: some pipes. -/
import Derived.Test.YtlaeckjfjleplaaG1
import Derived.Test.YtlaeckjfjleplaaG5
import Derived.Test.YtlaeckjfjleplaaRD
import Derived.Test.YtlaeckjfjleplaaRW
import Derived.Deep.AppendLies
import Derived.Deep.RegionHeld3
import Derived.Deep.RegionWith
namespace Go.Proofs.Ytlaeckjfjleplaa
open Go.RowKit

theorem OwnRows.grown {w w' : World} {b g cap : Nat} {Ls : List (List Int)} (h : OwnRows w b g cap Ls) {rg : Nat} (hg : w.grownBy w' (some rg)) (hr : rg < b) : OwnRows w' b g cap Ls := by
  obtain ⟨vs, h1, h2, h3, h4⟩ := h
  exact ⟨vs, h1, own_grow h2 hg (fun q hq => by injection hq with hq; omega), h3, fun k hk hk' => (h4 k hk hk').grown hg hr⟩

theorem reads_tail {w : World} {b g c : Nat} {L : List Int} {M : Nat} (h : Ints w b (.slice (some ⟨g, 0, none⟩) M c) L) (hM : L.length = M) (h2 : 2 ≤ M) : Reads w (.slice (some ⟨g, 1, none⟩) (M - 1) (c - 1)) (L.drop 1) := by
  obtain ⟨A', c', hv, h3, h4, h5, hc⟩ := h.form
  injection hv with e1 e2 e3
  subst e3
  have hl : (L.drop 1).length = M - 1 := by rw [List.length_drop, hM]
  refine ⟨some ⟨g, 1, none⟩, c - 1, by rw [hl], by rw [hl]; omega, by omega, by rw [hl]; omega, fun _ => ⟨g, 1, rfl, ?_, fun j hj => ?_⟩⟩
  · obtain ⟨g', hA, -, hg, -, -⟩ := hc w (Below.refl _ _) 0 (by omega)
    rw [← e1] at hA
    injection hA with hA
    injection hA with hA
    omega
  · obtain ⟨g', hA, -, hg, c0, -⟩ := hc w (Below.refl _ _) (1 + j) (by omega)
    rw [← e1] at hA
    injection hA with hA
    injection hA with hA
    subst hA
    rw [c0]
    simp [Nat.add_comm]

theorem Reads.setFar {w : World} {v : Value} {xs : List Int} {a : Addr} {u : Value} (h : Reads w v xs) (hne : ∀ q, v.ownBlock = some q → q ≠ a.block) : Reads (w.setCell a u) v xs := by
  obtain ⟨A, c, h1, h2, h3, h4, h5⟩ := h
  refine ⟨A, c, h1, h2, h3, h4, fun h0 => ?_⟩
  obtain ⟨g, o, k1, k2, k3⟩ := h5 h0
  have hg : g ≠ a.block := hne g (by rw [h1, k1]; rfl)
  exact ⟨g, o, k1, by simpa using k2, fun j hj => (World.cell?_setCell_other _ _ _ _ (by rintro rfl; exact hg rfl)).trans (k3 j hj)⟩

/-- what l20Some leaves -/
def Somed (w : World) (rg : Nat) (A : Option Addr) (m c K : Nat) (e : Ending) (w' : World) : Prop :=
  ∃ (z : Int) (ps : List Pp) (v : Value) (xs : List Int) (u : Value), e = .returned (.tuple #[.agg #[.int .i64 z, v], u]) ∧ Pipes w' w.heap.size v ps ∧ Reads w' u xs ∧ Rd w' rg A m c K ∧ w.grownBy w' (some rg) ∧ ps.length ≤ 8 ∧ 1 ≤ z ∧ z ≤ 6 ∧ xs.length ≤ 6 ∧ ∀ q, u.ownBlock = some q → w.heap.size < q

set_option maxRecDepth 20000 in
set_option maxHeartbeats 4000000 in
set_option maxRecDepth 20000 in
theorem l20Some_any (rg m c K : Nat) (A : Option Addr) (w : World) (h : Rd w rg A m c K) (hK : K ≤ 39000) :
    Calls Try.prog 45 #[.pointer (some ⟨rg, 0, none⟩)] w (Somed w rg A m c (K + 420)) := by
  have hrg := h.1
  go_enter Try.func45, Try.ntmps45
  go_wp2_with fail
  refine (l20Flow_any 14 rg m c K A _ (h.keep (by (repeat (first | (with_reducible assumption) | (with_reducible exact Below.refl _ _) | ((with_reducible refine Below.alloc ?_ ?hsz _); (case hsz => (first | omega | (simp; done) | (simp; omega) | (simp at *; omega)))) | ((with_reducible refine Below.setCell ?_ ?hsz _); (case hsz => (first | omega | (simp; done) | (simp; omega) | (simp at *; omega)))) | (with_reducible refine Below.drew ?_) | (with_reducible refine below_drewN ?_ _) | ((with_reducible refine Below.trans ?_ (Below.mono (by with_reducible assumption) ?hsz)); (case hsz => (first | omega | (simp; done) | (simp; omega) | (simp at *; omega)))))))) (by omega) (by omega) (by omega)).mono ?_
  rintro e w1 ⟨z, ps, v, xs, u, rfl, hp1, hx1, hr1, hg1, hl8, hzl, hzh⟩
  rw [World.size_alloc] at hp1 hx1
  have bx1 : Box2 w1 w.heap.size (.int .i64 0) (.slice none 0 0) := (Box2.new w _ _ 25).grown hg1 (by simp; omega)
  have hs1 := hg1.size
  rw [World.size_alloc] at hs1
  have hgw1 : w.grownBy w1 (some rg) := grow_more (grow_alloc (grow_refl w _) _) hg1 (fun q hq => .inr hq)
  obtain ⟨PA, pc, rfl, hc1, hc2, hsm, -⟩ := hp1.form
  obtain ⟨XA, xc, rfl, -, -, -, -⟩ := hx1.form
  unfold maxLen at hc2
  obtain ⟨i0, hi0', hz0, hz1', hz2'⟩ := info_parts int_info
  have nb1 : Box2 (w1.alloc (.cells #[.int .i64 z, .slice PA ps.length pc] 25)) w1.heap.size (.int .i64 z) (.slice PA ps.length pc) := Box2.new _ _ _ _
  clear hg1
  go_wp2_with fail
  refine (specRingsOf_any z _ _ ps xs _ _ _ (hp1.keep (by (repeat (first | (with_reducible assumption) | (with_reducible exact Below.refl _ _) | ((with_reducible refine Below.alloc ?_ ?hsz _); (case hsz => (first | omega | (simp; done) | (simp; omega) | (simp at *; omega)))) | ((with_reducible refine Below.setCell ?_ ?hsz _); (case hsz => (first | omega | (simp; done) | (simp; omega) | (simp at *; omega)))) | (with_reducible refine Below.drew ?_) | (with_reducible refine below_drewN ?_ _) | ((with_reducible refine Below.trans ?_ (Below.mono (by with_reducible assumption) ?hsz)); (case hsz => (first | omega | (simp; done) | (simp; omega) | (simp at *; omega)))))))) (hx1.keep (by (repeat (first | (with_reducible assumption) | (with_reducible exact Below.refl _ _) | ((with_reducible refine Below.alloc ?_ ?hsz _); (case hsz => (first | omega | (simp; done) | (simp; omega) | (simp at *; omega)))) | ((with_reducible refine Below.setCell ?_ ?hsz _); (case hsz => (first | omega | (simp; done) | (simp; omega) | (simp at *; omega)))) | (with_reducible refine Below.drew ?_) | (with_reducible refine below_drewN ?_ _) | ((with_reducible refine Below.trans ?_ (Below.mono (by with_reducible assumption) ?hsz)); (case hsz => (first | omega | (simp; done) | (simp; omega) | (simp at *; omega))))))))).mono ?_
  rintro e w2 ⟨g, cap, rfl, hO, hb2⟩
  rw [World.size_alloc] at hO
  have nb2 := nb1.keep hb2
  have hb12 : Below w1.heap.size w1 w2 := by (repeat (first | (with_reducible assumption) | (with_reducible exact Below.refl _ _) | ((with_reducible refine Below.alloc ?_ ?hsz _); (case hsz => (first | omega | (simp; done) | (simp; omega) | (simp at *; omega)))) | ((with_reducible refine Below.setCell ?_ ?hsz _); (case hsz => (first | omega | (simp; done) | (simp; omega) | (simp at *; omega)))) | (with_reducible refine Below.drew ?_) | (with_reducible refine below_drewN ?_ _) | ((with_reducible refine Below.trans ?_ (Below.mono (by with_reducible assumption) ?hsz)); (case hsz => (first | omega | (simp; done) | (simp; omega) | (simp at *; omega))))))
  have bx2 := bx1.keep hb12
  have hr2 := hr1.keep hb12
  have hgw2 := grow_below hgw1 hb12
  have hp2 := hp1.keep hb12
  have hs2 := hb12.size
  have hfew := ringsR_few (n := z) (ps := ps) (xs := xs)
  have HE := Lib.hid (ringsR_each (n := z) (ps := ps) (xs := xs))
  generalize ringsR z ps xs = Ls at *
  obtain ⟨N, hN⟩ : ∃ N, Ls.length = N := ⟨_, rfl⟩
  rw [hN] at hfew ⊢
  have HN := Lib.hid hN
  clear hN nb1 bx1 hr1 hgw1 hp1 hx1 hb2 hb12
  obtain ⟨ns, n0, n1, n2, n3⟩ := id nb2
  obtain ⟨bs, b0, b1, b2, b3⟩ := id bx2
  by_cases hN0 : 0 < N
  · go_wp2_with fail
    refine (pick_any 3 rg m c _ A _ hr2 (by omega) (by omega) (by omega)).mono ?_
    rintro e w3 ⟨x3, rfl, x30, x31, hr3, hg3, hz3⟩
    have nb3 := nb2.grown hg3 (by simp; omega)
    have bx3 := bx2.grown hg3 (by simp; omega)
    have hp3 := hp2.grown hg3 (by omega)
    have hO3 := hO.grown hg3 (by omega)
    have hgw3 : w.grownBy w3 (some rg) := grow_more hgw2 hg3 (fun q hq => .inr hq)
    have hs3 : w2.heap.size ≤ w3.heap.size := by omega
    clear nb2 bx2 hp2 hO hgw2 hg3 hr2 hz3 ns n0 n1 n2 n3 bs b0 b1 b2 b3
    obtain ⟨ns, n0, n1, n2, n3⟩ := id nb3
    obtain ⟨bs, b0, b1, b2, b3⟩ := id bx3
    by_cases hx3 : 0 < x3
    · have hxd : decide (0 < x3) = true := decide_eq_true hx3
      clear hx3
      go_wp2_with fail
      go_region_with ((go_at_call 58; (with_reducible refine (pick_any (N : Int) rg m c _ A _ hr3.drew (by omega) (by omega) (by omega)).mono ?_); rintro e w4 ⟨x4, rfl, x40, x41, hr4, hg4, hz4⟩; have nb4 := (nb3.keep (w' := w3.drew) (by (repeat (first | (with_reducible assumption) | (with_reducible exact Below.refl _ _) | ((with_reducible refine Below.alloc ?_ ?hsz _); (case hsz => (first | omega | (simp; done) | (simp; omega) | (simp at *; omega)))) | ((with_reducible refine Below.setCell ?_ ?hsz _); (case hsz => (first | omega | (simp; done) | (simp; omega) | (simp at *; omega)))) | (with_reducible refine Below.drew ?_) | (with_reducible refine below_drewN ?_ _) | ((with_reducible refine Below.trans ?_ (Below.mono (by with_reducible assumption) ?hsz)); (case hsz => (first | omega | (simp; done) | (simp; omega) | (simp at *; omega)))))))).grown hg4 (by simp; omega); have bx4 := (bx3.keep (w' := w3.drew) (by (repeat (first | (with_reducible assumption) | (with_reducible exact Below.refl _ _) | ((with_reducible refine Below.alloc ?_ ?hsz _); (case hsz => (first | omega | (simp; done) | (simp; omega) | (simp at *; omega)))) | ((with_reducible refine Below.setCell ?_ ?hsz _); (case hsz => (first | omega | (simp; done) | (simp; omega) | (simp at *; omega)))) | (with_reducible refine Below.drew ?_) | (with_reducible refine below_drewN ?_ _) | ((with_reducible refine Below.trans ?_ (Below.mono (by with_reducible assumption) ?hsz)); (case hsz => (first | omega | (simp; done) | (simp; omega) | (simp at *; omega)))))))).grown hg4 (by simp; omega); obtain ⟨ns4, q0, q1, q2, q3⟩ := id nb4; obtain ⟨bs4, p0, p1, p2, p3⟩ := id bx4; have hO4 := (hO3.keep (w' := w3.drew) (by (repeat (first | (with_reducible assumption) | (with_reducible exact Below.refl _ _) | ((with_reducible refine Below.alloc ?_ ?hsz _); (case hsz => (first | omega | (simp; done) | (simp; omega) | (simp at *; omega)))) | ((with_reducible refine Below.setCell ?_ ?hsz _); (case hsz => (first | omega | (simp; done) | (simp; omega) | (simp at *; omega)))) | (with_reducible refine Below.drew ?_) | (with_reducible refine below_drewN ?_ _) | ((with_reducible refine Below.trans ?_ (Below.mono (by with_reducible assumption) ?hsz)); (case hsz => (first | omega | (simp; done) | (simp; omega) | (simp at *; omega)))))))).grown hg4 (by omega); obtain ⟨q, rfl⟩ : ∃ q : Nat, x4 = (q : Int) := ⟨x4.toNat, by omega⟩; have hqN : q < Ls.length := (by have := HN.out; omega); obtain ⟨A9, c9, hv9, hc91, hc92, -, hcell9⟩ := hO4.rows; obtain ⟨g9, vk, hg9, hgb9, hg9w, ck9, hk9⟩ := hcell9 q hqN; injection hv9 with e91 e92 e93; subst e91; injection hg9 with hg9; injection hg9 with hg9; subst hg9; obtain ⟨L2, L7⟩ := HE.out _ (List.getElem_mem hqN); obtain ⟨gk, cc, rfl, hRk⟩ := hk9.row (by omega); obtain ⟨ok1, ok2⟩ := hRk.capd; unfold maxLen at ok2; obtain ⟨M, hM⟩ : ∃ M, Ls[q].length = M := ⟨_, rfl⟩; rw [hM] at ck9 hk9 L2 L7 ok1; have HL := Lib.hid hM; clear hM e92 e93 hRk; have hgn1 : g ≠ w.heap.size := (by omega); have hgn2 : w.heap.size ≠ g := (by omega); have hqN2 : q < N := (by omega); have hM1 : (1 : Int) ≤ (M : Int) := (by omega); have hM2 : 1 ≤ M := (by omega); have hcc : cc ≠ 1 := (by omega); have hcc2 : 1 ≠ cc := (by omega); have hM3 : (M : Int) ≤ (cc : Int) := (by omega)))
      all_goals
        go_wp2
        have hp4 := (show Pipes w3.drew (w.heap.size + 1) (.slice PA ps.length pc) ps from hp3).grown hg4 (by omega)
        have hgw4 : w.grownBy w4 (some rg) := grow_more (grow_drew hgw3) hg4 (fun q hq => .inr hq)
        have hl9 : (Ls[q].drop 1).length ≤ 6 := by rw [List.length_drop, HL.out]; omega
        refine bodyPost_ret (v := .tuple #[.agg #[.int .i64 z, .slice PA ps.length pc], .slice (some ⟨gk, 1, none⟩) (M - 1) (cc - 1)]) (by simp [results, Try.results45, go_sem, p0, p1]) rfl ⟨z, ps, _, Ls[q].drop 1, _, rfl, ?_, ?_, ?_, ?_, hl8, hzl, hzh, hl9, fun q' hq' => by have hq2 : gk = q' := (by injection hq'); have hq3 := (hk9.1.lt gk rfl).1; omega⟩
        · exact ((hp4.setLow (by simp)).setLow (by simp)).mono (by omega)
        · exact reads_tail ((hk9.setLow (by simp; omega)).setLow (by simp; omega)) HL.out L2
        · exact ((hr4.set (by simp; omega) _).set (by simp; omega) _).more (by omega)
        · exact grow_set (grow_set hgw4 (.inl (Nat.le_refl _)) _) (.inl (Nat.le_refl _)) _
    · have hxd : decide (0 < x3) = false := decide_eq_false hx3
      clear hx3 hO3
      go_wp2_with fail
      have hlit : Row ((w3).alloc (.cells #[] 3)) (w3).heap.size (w3).heap.size 0 0 [] := ⟨World.ownsRow_lit (e := 3) (base := (w3).heap.size) (size := 1) (w3) #[] 0 (Nat.le_refl _) (by simp [maxLen]) rfl, by simp [small]⟩
      have hrA := (hr3).alloc' (.cells #[] 3)
      have hrgA := hrA.1
      refine (pick_any 4 rg m c _ A _ hrA (by omega) (by omega) (by omega)).mono ?_
      rintro e w5 ⟨x5, rfl, x50, x51, hr5, hg5, hz5⟩
      have hsA := (hgw3).size
      have hrlow := (hr3).1
      have hlow : rg < (w3).heap.size := hrlow
      have hlit5 : Row w5 (w3).heap.size (w3).heap.size 0 0 [] := hlit.grown hg5 (by intro hh; injection hh with hh; omega)
      have hg5' : (w3).grownBy w5 (some rg) := grow_more (grow_alloc (grow_refl _ _) _) hg5 (fun q hq => .inr hq)
      have hs5 : (w3).heap.size < w5.heap.size := by have := hg5.size; simp at this; omega
      obtain ⟨kx, rfl⟩ : ∃ kx : Nat, x5 = (kx : Int) := ⟨x5.toNat, by omega⟩
      clear hg5 hlit hrA hz5
      go_wp2_with fail
      go_loopw [7, 8] (fun t7 t8 wr => ∃ (k q g1 k1 : Nat) (ys : List Int), k ≤ 3 ∧ q + k ≤ 3 ∧ t8 = .int .i64 k ∧ ys.length = q ∧ t7 = .slice (some ⟨g1, 0, none⟩) q k1 ∧ Row wr (w3).heap.size g1 q k1 ys ∧ Rd wr rg A m c (K + 410 - k) ∧ (w3).grownBy wr (some rg)) (fun _ t _ => (intOf t).toNat)
      case atStart => exact ⟨kx, 0, (w3).heap.size, 0, [], by omega, by omega, rfl, rfl, rfl, hlit5, hr5.more (by omega), hg5'⟩
      case round =>
        clear hlit5 hr5 hg5' hs5
        obtain ⟨k, q, g1, k1, ys, hk, hqk, rfl, hyl, rfl, hR, hr, hg⟩ := hrel
        have HYL := Lib.hid hyl
        clear hyl
        have hsz := hg.size
        have nbr := (nb3).grown hg (by simp; omega)
        have bxr := (bx3).grown hg (by simp; omega)
        have hpr := (hp3).grown hg (by omega)
        have hgwr : w.grownBy wr (some rg) := grow_more (hgw3) hg (fun q hq => .inr hq)
        obtain ⟨nsr, n0, n1, n2, n3⟩ := id nbr
        obtain ⟨bsr, b0, b1, b2, b3⟩ := id bxr
        obtain ⟨og1, og2⟩ := hR.lt
        by_cases hk0 : 0 < k
        · have ek : ((k - 1 : Nat) : Int) = (k : Int) - 1 := by omega
          have HEK := Lib.hid ek
          clear ek
          go_wp2_with fail
          refine (pick_any ((ps.length : Int) + 1) rg m c _ A _ hr (by omega) (by omega) (by omega)).mono ?_
          rintro e w6 ⟨x6, rfl, x60, x61, hr6, hg6, hz6⟩
          have hR6 := hR.grown hg6 (by intro hh; injection hh with hh; omega)
          have hg6' : (w3).grownBy w6 (some rg) := grow_more hg hg6 (fun q hq => .inr hq)
          have hs6 : (w3).heap.size ≤ w6.heap.size := hg6'.size
          have hR6o := hR6.1
          have hrow : ∀ q', (Value.slice (some ⟨g1, 0, none⟩) q k1).ownBlock = some q' → (w3).heap.size ≤ q' := fun q' hq => (hR6o.lt q' hq).1
          clear hR hr hg hg6 hz6 nbr bxr hpr hgwr nsr n0 n1 n2 n3 bsr b0 b1 b2 b3
          go_wp2_with (first
            | (at_builtin
               go_must (refine wpList_append_lies _ rfl _ _ 26 rfl (w3).heap.size 3 i0 _ 1 8 Try.underlying26 hi0' hz0 hz1' hz2' rfl (by omega) (.slice (some ⟨g1, 0, none⟩) q k1) q _ rfl (hR6o.alloc _) ⟨w6.heap.size, 0, none⟩ 1 1 [.int .i64 x6] rfl rfl (World.news_of_block (cs := #[.int .i64 x6]) (t := 3) (fr := (0, 0)) (heap_alloc_new _ _)) (by simp [Value.oneCell']) (by omega) (by unfold maxLen; omega) (by omega) (by simp; omega) _ rfl ?_)
               intro g7 k7 w7 hown7 hgr7 hat7 hlt7))
          have hb7 : Below (w3).heap.size w6 w7 := Below.grown (w := w6.alloc (.cells #[.int .i64 x6] 3)) (by (repeat (first | (with_reducible assumption) | (with_reducible exact Below.refl _ _) | ((with_reducible refine Below.alloc ?_ ?hsz _); (case hsz => (first | omega | (simp; done) | (simp; omega) | (simp at *; omega)))) | ((with_reducible refine Below.setCell ?_ ?hsz _); (case hsz => (first | omega | (simp; done) | (simp; omega) | (simp at *; omega)))) | (with_reducible refine Below.drew ?_) | (with_reducible refine below_drewN ?_ _) | ((with_reducible refine Below.trans ?_ (Below.mono (by with_reducible assumption) ?hsz)); (case hsz => (first | omega | (simp; done) | (simp; omega) | (simp at *; omega))))))) hgr7 (by (first | omega | (simp; done) | (simp; omega) | (simp at *; omega))) hrow
          have hr7 := hr6.low (hb7.mono (by omega))
          have hR7 : Row w7 (w3).heap.size g7 (q + 1) k7 (ys ++ [x6]) := ⟨by rw [List.map_append]; exact hown7, by simp [small]; omega⟩
          have hg7 : (w3).grownBy w7 (some rg) := grow_more (grow_alloc hg6' _) hgr7 (fun q hq => .inl (hrow q hq))
          clear hown7 hgr7 hat7 hlt7
          go_roundw
          case rel => exact ⟨k - 1, q + 1, g7, k7, ys ++ [x6], by omega, by omega, by rw [HEK.out], by rw [List.length_append, HYL.out]; rfl, rfl, hR7, hr7.more (by omega), hg7⟩
          case measure => simp [intOf]; omega
        · go_wp2
          have hl9 : ys.length ≤ 6 := by rw [HYL.out]; omega
          have hI9 := hR.ints
          refine bodyPost_ret (v := .tuple #[.agg #[.int .i64 z, .slice PA ps.length pc], .slice (some ⟨g1, 0, none⟩) q k1]) (by simp [results, Try.results45, go_sem, b0, b1]) rfl ⟨z, ps, _, ys, _, rfl, ?_, ?_, ?_, ?_, hl8, hzl, hzh, hl9, fun q' hq' => by have hq2 : g1 = q' := (by injection hq'); omega⟩
          · exact ((hpr.setLow (by simp)).setLow (by simp)).mono (by omega)
          · exact ((hI9.setLow (by simp; omega)).setLow (by simp; omega)).reads
          · exact ((hr.set (by simp; omega) _).set (by simp; omega) _).more (by omega)
          · exact grow_set (grow_set hgwr (.inl (Nat.le_refl _)) _) (.inl (Nat.le_refl _)) _
  · have hNd : decide ((0 : Int) < (N : Int)) = false := decide_eq_false (by omega)
    clear hO
    go_wp2_with fail
    have hlit : Row ((w2).alloc (.cells #[] 3)) (w2).heap.size (w2).heap.size 0 0 [] := ⟨World.ownsRow_lit (e := 3) (base := (w2).heap.size) (size := 1) (w2) #[] 0 (Nat.le_refl _) (by simp [maxLen]) rfl, by simp [small]⟩
    have hrA := (hr2).alloc' (.cells #[] 3)
    have hrgA := hrA.1
    refine (pick_any 4 rg m c _ A _ hrA (by omega) (by omega) (by omega)).mono ?_
    rintro e w5 ⟨x5, rfl, x50, x51, hr5, hg5, hz5⟩
    have hsA := (hgw2).size
    have hrlow := (hr2).1
    have hlow : rg < (w2).heap.size := hrlow
    have hlit5 : Row w5 (w2).heap.size (w2).heap.size 0 0 [] := hlit.grown hg5 (by intro hh; injection hh with hh; omega)
    have hg5' : (w2).grownBy w5 (some rg) := grow_more (grow_alloc (grow_refl _ _) _) hg5 (fun q hq => .inr hq)
    have hs5 : (w2).heap.size < w5.heap.size := by have := hg5.size; simp at this; omega
    obtain ⟨kx, rfl⟩ : ∃ kx : Nat, x5 = (kx : Int) := ⟨x5.toNat, by omega⟩
    clear hg5 hlit hrA hz5
    go_wp2_with fail
    go_loopw [7, 8] (fun t7 t8 wr => ∃ (k q g1 k1 : Nat) (ys : List Int), k ≤ 3 ∧ q + k ≤ 3 ∧ t8 = .int .i64 k ∧ ys.length = q ∧ t7 = .slice (some ⟨g1, 0, none⟩) q k1 ∧ Row wr (w2).heap.size g1 q k1 ys ∧ Rd wr rg A m c (K + 410 - k) ∧ (w2).grownBy wr (some rg)) (fun _ t _ => (intOf t).toNat)
    case atStart => exact ⟨kx, 0, (w2).heap.size, 0, [], by omega, by omega, rfl, rfl, rfl, hlit5, hr5.more (by omega), hg5'⟩
    case round =>
      clear hlit5 hr5 hg5' hs5
      obtain ⟨k, q, g1, k1, ys, hk, hqk, rfl, hyl, rfl, hR, hr, hg⟩ := hrel
      have HYL := Lib.hid hyl
      clear hyl
      have hsz := hg.size
      have nbr := (nb2).grown hg (by simp; omega)
      have bxr := (bx2).grown hg (by simp; omega)
      have hpr := (hp2).grown hg (by omega)
      have hgwr : w.grownBy wr (some rg) := grow_more (hgw2) hg (fun q hq => .inr hq)
      obtain ⟨nsr, n0, n1, n2, n3⟩ := id nbr
      obtain ⟨bsr, b0, b1, b2, b3⟩ := id bxr
      obtain ⟨og1, og2⟩ := hR.lt
      by_cases hk0 : 0 < k
      · have ek : ((k - 1 : Nat) : Int) = (k : Int) - 1 := by omega
        have HEK := Lib.hid ek
        clear ek
        go_wp2_with fail
        refine (pick_any ((ps.length : Int) + 1) rg m c _ A _ hr (by omega) (by omega) (by omega)).mono ?_
        rintro e w6 ⟨x6, rfl, x60, x61, hr6, hg6, hz6⟩
        have hR6 := hR.grown hg6 (by intro hh; injection hh with hh; omega)
        have hg6' : (w2).grownBy w6 (some rg) := grow_more hg hg6 (fun q hq => .inr hq)
        have hs6 : (w2).heap.size ≤ w6.heap.size := hg6'.size
        have hR6o := hR6.1
        have hrow : ∀ q', (Value.slice (some ⟨g1, 0, none⟩) q k1).ownBlock = some q' → (w2).heap.size ≤ q' := fun q' hq => (hR6o.lt q' hq).1
        clear hR hr hg hg6 hz6 nbr bxr hpr hgwr nsr n0 n1 n2 n3 bsr b0 b1 b2 b3
        go_wp2_with (first
          | (at_builtin
             go_must (refine wpList_append_lies _ rfl _ _ 26 rfl (w2).heap.size 3 i0 _ 1 8 Try.underlying26 hi0' hz0 hz1' hz2' rfl (by omega) (.slice (some ⟨g1, 0, none⟩) q k1) q _ rfl (hR6o.alloc _) ⟨w6.heap.size, 0, none⟩ 1 1 [.int .i64 x6] rfl rfl (World.news_of_block (cs := #[.int .i64 x6]) (t := 3) (fr := (0, 0)) (heap_alloc_new _ _)) (by simp [Value.oneCell']) (by omega) (by unfold maxLen; omega) (by omega) (by simp; omega) _ rfl ?_)
             intro g7 k7 w7 hown7 hgr7 hat7 hlt7))
        have hb7 : Below (w2).heap.size w6 w7 := Below.grown (w := w6.alloc (.cells #[.int .i64 x6] 3)) (by (repeat (first | (with_reducible assumption) | (with_reducible exact Below.refl _ _) | ((with_reducible refine Below.alloc ?_ ?hsz _); (case hsz => (first | omega | (simp; done) | (simp; omega) | (simp at *; omega)))) | ((with_reducible refine Below.setCell ?_ ?hsz _); (case hsz => (first | omega | (simp; done) | (simp; omega) | (simp at *; omega)))) | (with_reducible refine Below.drew ?_) | (with_reducible refine below_drewN ?_ _) | ((with_reducible refine Below.trans ?_ (Below.mono (by with_reducible assumption) ?hsz)); (case hsz => (first | omega | (simp; done) | (simp; omega) | (simp at *; omega))))))) hgr7 (by (first | omega | (simp; done) | (simp; omega) | (simp at *; omega))) hrow
        have hr7 := hr6.low (hb7.mono (by omega))
        have hR7 : Row w7 (w2).heap.size g7 (q + 1) k7 (ys ++ [x6]) := ⟨by rw [List.map_append]; exact hown7, by simp [small]; omega⟩
        have hg7 : (w2).grownBy w7 (some rg) := grow_more (grow_alloc hg6' _) hgr7 (fun q hq => .inl (hrow q hq))
        clear hown7 hgr7 hat7 hlt7
        go_roundw
        case rel => exact ⟨k - 1, q + 1, g7, k7, ys ++ [x6], by omega, by omega, by rw [HEK.out], by rw [List.length_append, HYL.out]; rfl, rfl, hR7, hr7.more (by omega), hg7⟩
        case measure => simp [intOf]; omega
      · go_wp2
        have hl9 : ys.length ≤ 6 := by rw [HYL.out]; omega
        have hI9 := hR.ints
        refine bodyPost_ret (v := .tuple #[.agg #[.int .i64 z, .slice PA ps.length pc], .slice (some ⟨g1, 0, none⟩) q k1]) (by simp [results, Try.results45, go_sem, b0, b1]) rfl ⟨z, ps, _, ys, _, rfl, ?_, ?_, ?_, ?_, hl8, hzl, hzh, hl9, fun q' hq' => by have hq2 : g1 = q' := (by injection hq'); omega⟩
        · exact ((hpr.setLow (by simp)).setLow (by simp)).mono (by omega)
        · exact ((hI9.setLow (by simp; omega)).setLow (by simp; omega)).reads
        · exact ((hr.set (by simp; omega) _).set (by simp; omega) _).more (by omega)
        · exact grow_set (grow_set hgwr (.inl (Nat.le_refl _)) _) (.inl (Nat.le_refl _)) _

def DrawnRing (w : World) (e : Ending) (w' : World) : Prop :=
  ∃ (z : Int) (ps : List Pp) (u : Value) (xs : List Int) (r : Value), e = .returned (.tuple #[.agg #[.int .i64 z, u], r]) ∧ Pipes w' w.heap.size u ps ∧ Reads w' r xs ∧ Below w.heap.size w w' ∧ ps.length ≤ 8 ∧ 1 ≤ z ∧ z ≤ 6 ∧ xs.length ≤ 6

set_option maxHeartbeats 1000000 in
set_option maxRecDepth 20000 in
theorem drawRingOk_any (v : Value) (n : Nat) (w : World) (h : ArgBytes w v n) : Calls Try.prog 12 #[v] w (DrawnRing w) := by
  have bx0 := Box2.new w (.int .i64 0) (.slice none 0 0) 25
  go_enter Try.func12, Try.ntmps12
  go_wp2_with fail
  refine (l20Open_any v n _ (h.keep (by (repeat (first | (with_reducible assumption) | (with_reducible exact Below.refl _ _) | ((with_reducible refine Below.alloc ?_ ?hsz _); (case hsz => (first | omega | (simp; done) | (simp; omega) | (simp at *; omega)))) | ((with_reducible refine Below.setCell ?_ ?hsz _); (case hsz => (first | omega | (simp; done) | (simp; omega) | (simp at *; omega)))) | (with_reducible refine Below.drew ?_) | (with_reducible refine below_drewN ?_ _) | ((with_reducible refine Below.trans ?_ (Below.mono (by with_reducible assumption) ?hsz)); (case hsz => (first | omega | (simp; done) | (simp; omega) | (simp at *; omega))))))))).mono ?_
  rintro e w1 ⟨A, m, c, rfl, hr1, hb1, hz1⟩
  have bx1 := bx0.keep (hb1.mono (by simp))
  rw [World.size_alloc] at hr1 hz1
  have hgo : Below w.heap.size w w1 := by (repeat (first | (with_reducible assumption) | (with_reducible exact Below.refl _ _) | ((with_reducible refine Below.alloc ?_ ?hsz _); (case hsz => (first | omega | (simp; done) | (simp; omega) | (simp at *; omega)))) | ((with_reducible refine Below.setCell ?_ ?hsz _); (case hsz => (first | omega | (simp; done) | (simp; omega) | (simp at *; omega)))) | (with_reducible refine Below.drew ?_) | (with_reducible refine below_drewN ?_ _) | ((with_reducible refine Below.trans ?_ (Below.mono (by with_reducible assumption) ?hsz)); (case hsz => (first | omega | (simp; done) | (simp; omega) | (simp at *; omega))))))
  go_wp2_with fail
  with_reducible refine (l20Some_any (w.heap.size + 1) m c 0 A _ hr1 (by omega)).mono ?_
  rintro e w2 ⟨z, ps, u, xs, r, rfl, hp2, hx2, hr2, hg2, hl8, hzl, hzh, hl6, hown⟩
  have bx2 := bx1.grown hg2 (by simp)
  have hs2 := hg2.size
  have hb2 : Below w.heap.size w w2 := hgo.trans (below_grow hg2 (by omega) (fun q hq => by injection hq with hq; omega))
  obtain ⟨PA, pc, rfl, hc1, hc2, hsm, -⟩ := hp2.form
  obtain ⟨XA, xc, rfl, -, -, -, -⟩ := hx2.form
  obtain ⟨bs, b0, b1, b2, b3⟩ := id bx2
  obtain ⟨M, hM⟩ : ∃ M, xs.length = M := ⟨_, rfl⟩
  rw [hM] at hx2 hown ⊢
  clear hM
  go_wp2
  refine bodyPost_ret (v := .tuple #[.agg #[.int .i64 z, .slice PA ps.length pc], .slice XA M xc]) (by simp [results, Try.results12, go_sem, b0, b1]) rfl ⟨z, ps, _, xs, _, rfl, ?_, ?_, ?_, hl8, hzl, hzh, hl6⟩
  · refine Pipes.mono (b := w1.heap.size) ?_ (by omega)
    (repeat (first | (with_reducible assumption) | ((with_reducible refine Pipes.setLow ?_ ?hsz); (case hsz => (first | omega | (simp; done) | (simp; omega) | (simp at *; omega)))) | (with_reducible refine Pipes.alloc' ?_ _) | (with_reducible refine Pipes.drew' ?_) | (with_reducible refine Pipes.drewN' ?_ _) | ((with_reducible refine Pipes.keep ?_ (by with_reducible assumption)))))
  · exact (hx2.setFar (fun q hq => by have := hown q hq; simp; omega)).setFar (fun q hq => by have := hown q hq; simp; omega)
  · (repeat (first | (with_reducible assumption) | (with_reducible exact Below.refl _ _) | ((with_reducible refine Below.alloc ?_ ?hsz _); (case hsz => (first | omega | (simp; done) | (simp; omega) | (simp at *; omega)))) | ((with_reducible refine Below.setCell ?_ ?hsz _); (case hsz => (first | omega | (simp; done) | (simp; omega) | (simp at *; omega)))) | (with_reducible refine Below.drew ?_) | (with_reducible refine below_drewN ?_ _) | ((with_reducible refine Below.trans ?_ (Below.mono (by with_reducible assumption) ?hsz)); (case hsz => (first | omega | (simp; done) | (simp; omega) | (simp at *; omega))))))

end Go.Proofs.Ytlaeckjfjleplaa
