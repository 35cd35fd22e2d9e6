/- Contracts of the functions of chapter 3 in the program: WayFrom. -/
import Derived.Test.YtmgpekdhcghabaaGreatWH
namespace Go.Proofs.YtmgpekdhcghabaaGreat
open Go.RowKit

theorem ret_vb' {v : Value} {b b' : Bool} (h : b = b') : Ending.returned (.tuple #[v, .bool b]) = .returned (.tuple #[v, .bool b']) := by rw [h]

/-- the loop's two variables: the node, and how many steps are left behind the next one -/
def WayVars (w : World) (ga gb : Nat) (x y : Int) : Prop :=
  ga < w.heap.size ∧ gb < w.heap.size ∧ ga ≠ gb ∧ w.cell? ⟨ga, 0, none⟩ = some (.int .i64 x) ∧ w.cell? ⟨gb, 0, none⟩ = some (.int .i64 y) ∧ w.frozen? ⟨ga, 0, none⟩ = false ∧ w.frozen? ⟨gb, 0, none⟩ = false

theorem wayVars_new (W : World) (h : Nat) (x y : Int) (hW : W.heap.size = h) : WayVars ((W.alloc (.cells #[.int .i64 x] 3)).alloc (.cells #[.int .i64 y] 3)) h (h + 1) x y := by
  subst hW
  refine ⟨by simp; omega, by simp, by omega, ?_, ?_, ?_, ?_⟩
  · exact (World.cell?_alloc_lt _ _ _ (by simp)).trans (by simp)
  · have e : W.heap.size + 1 = (W.alloc (.cells #[.int .i64 x] 3)).heap.size := by simp
    rw [e]; simp
  · exact ((Below.refl (W.alloc (.cells #[.int .i64 x] 3)).heap.size _).alloc (Nat.le_refl _) _).frozen (p := ⟨W.heap.size, 0, none⟩) (by simp) |>.trans (by simp)
  · have e : W.heap.size + 1 = (W.alloc (.cells #[.int .i64 x] 3)).heap.size := by simp
    rw [e]; simp
theorem WayVars.swap {w : World} {ga gb : Nat} {x y : Int} (h : WayVars w ga gb x y) : WayVars w gb ga y x := ⟨h.2.1, h.1, h.2.2.1.symm, h.2.2.2.2.1, h.2.2.2.1, h.2.2.2.2.2.2, h.2.2.2.2.2.1⟩
theorem wayVars_new' (W : World) (h : Nat) (x y : Int) (hW : W.heap.size = h) : WayVars ((W.alloc (.cells #[.int .i64 y] 3)).alloc (.cells #[.int .i64 x] 3)) (h + 1) h x y := (wayVars_new W h y x hW).swap
theorem WayVars.set0 {w : World} {ga gb : Nat} {x y : Int} (h : WayVars w ga gb x y) (z : Int) : WayVars (w.setCell ⟨ga, 0, none⟩ (.int .i64 z)) ga gb z y :=
  ⟨by simpa using h.1, by simpa using h.2.1, h.2.2.1, World.cell?_setCell_same _ _ _ h.2.2.2.1, (World.cell?_setCell_other _ _ _ _ (by intro e; injection e with e; exact h.2.2.1 e)).trans h.2.2.2.2.1, by simpa using h.2.2.2.2.2.1, by simpa using h.2.2.2.2.2.2⟩
theorem ownsRow_setCell_far {w : World} {b g n cap size : Nat} {e : TypeId} {xs : List Value} (h : w.ownsRow b e size (.slice (some ⟨g, 0, none⟩) n cap) n xs) {a : Addr} (ha : g ≠ a.block) (u : Value) : (w.setCell a u).ownsRow b e size (.slice (some ⟨g, 0, none⟩) n cap) n xs := by
  refine ⟨h.1, ?_⟩
  rcases h.2 with h0 | ⟨g', cap', cur, hv, hg, hh, r⟩
  · exact .inl h0
  · refine .inr ⟨g', cap', cur, hv, hg, ?_, r⟩
    have e : g' = g := by
      simp only [Value.slice.injEq, Option.some.injEq, Addr.mk.injEq, and_true, true_and] at hv
      exact hv.1.symm
    rw [Below.heap_setCell w a u g' (by rw [e]; exact ha)]; exact hh
theorem WayVars.keep {w w' : World} {ga gb : Nat} {x y : Int} (h : WayVars w ga gb x y) (hb : Below w.heap.size w w') : WayVars w' ga gb x y :=
  ⟨Nat.lt_of_lt_of_le h.1 hb.size, Nat.lt_of_lt_of_le h.2.1 hb.size, h.2.2.1, (hb.cell (p := ⟨ga, 0, none⟩) h.1).trans h.2.2.2.1, (hb.cell (p := ⟨gb, 0, none⟩) h.2.1).trans h.2.2.2.2.1,
    (hb.frozen (p := ⟨ga, 0, none⟩) h.1).trans h.2.2.2.2.2.1, (hb.frozen (p := ⟨gb, 0, none⟩) h.2.1).trans h.2.2.2.2.2.2⟩
theorem WayVars.grown {w w' : World} {ga gb : Nat} {x y : Int} (h : WayVars w ga gb x y) {row : Option Nat} (hg : w.grownBy w' row) (h1 : some ga ≠ row) (h2 : some gb ≠ row) : WayVars w' ga gb x y :=
  ⟨Nat.lt_of_lt_of_le h.1 hg.size, Nat.lt_of_lt_of_le h.2.1 hg.size, h.2.2.1, (hg.cell_far ⟨ga, 0, none⟩ h.1 h1).trans h.2.2.2.1, (hg.cell_far ⟨gb, 0, none⟩ h.2.1 h2).trans h.2.2.2.2.1,
    (hg.frozen_far ⟨ga, 0, none⟩ h.1 h1).trans h.2.2.2.2.2.1, (hg.frozen_far ⟨gb, 0, none⟩ h.2.1 h2).trans h.2.2.2.2.2.2⟩

set_option maxHeartbeats 4000000 in
set_option maxRecDepth 20000 in
theorem wayFromIn_any (n i j : Int) (v u : Value) (ps : List Pp) (xs : List Int) (b b' : Nat) (w : World) (hp : Pipes w b v ps) (hx : Ints w b' u xs) (hh : holdsB n ps xs = true) (he : endsB n ps i j = true) :
    Calls Tryz.prog 127 #[.agg #[.int .i64 n, v], u, .int .i64 i, .int .i64 j] w fun e w' => ∃ r, e = .returned (.tuple #[r, .bool (wayB n ps xs i j)]) ∧ Ints w' w.heap.size r (wayI n ps xs i j) ∧ Below w.heap.size w w' := by
  have hp0 := hp
  have hx0 := hx
  have hn := holds_net hh
  obtain ⟨hfl, -, hlen⟩ := holds_parts hh
  obtain ⟨-, -, hbd⟩ := flowOk_parts hfl
  obtain ⟨-, i0, i1, j0, j1, hij⟩ := ends_parts he
  obtain ⟨n2, n5, hl7, -⟩ := netOk_parts hn
  obtain ⟨A, c, rfl, hc1, hc2, hsm, -⟩ := hp.form
  obtain ⟨A', c', rfl, hc1', hc2', hsm', -⟩ := hx.form
  unfold maxLen at hc2 hc2'
  have HH := Lib.hid (And.intro hlen (And.intro hbd (net_rooms hn)))
  have HN := Lib.hid hn
  have Hw : Hid (wayB n ps xs i j = decide (dis n ps xs i j < n.toNat)) := Lib.hid (by simp [wayB, hh, he])
  clear hh hfl hlen hbd hn he
  obtain ⟨N, rfl⟩ : ∃ N : Nat, n = (N : Int) := ⟨n.toNat, by omega⟩
  obtain ⟨a, rfl⟩ : ∃ a : Nat, i = (a : Int) := ⟨i.toNat, by omega⟩
  rw [Int.toNat_natCast] at Hw
  go_enter Tryz.func127, Tryz.ntmps127
  go_wp2_with fail
  with_reducible refine (openSteps_any _ _ ps xs b b' _ (hp0.keep (by (repeat (first | (with_reducible assumption) | (with_reducible exact Below.refl _ _) | ((with_reducible refine Below.alloc ?_ ?hsz _); (case hsz => (first | omega | (simp; done) | (simp; omega) | (simp at *; omega)))) | ((with_reducible refine Below.setCell ?_ ?hsz _); (case hsz => (first | omega | (simp; done) | (simp; omega) | (simp at *; omega)))) | (with_reducible refine Below.drew ?_) | (with_reducible refine below_drewN ?_ _) | ((with_reducible refine Below.trans ?_ (Below.mono (by with_reducible assumption) ?hsz)); (case hsz => (first | omega | (simp; done) | (simp; omega) | (simp at *; omega)))))))) (hx0.keep (by (repeat (first | (with_reducible assumption) | (with_reducible exact Below.refl _ _) | ((with_reducible refine Below.alloc ?_ ?hsz _); (case hsz => (first | omega | (simp; done) | (simp; omega) | (simp at *; omega)))) | ((with_reducible refine Below.setCell ?_ ?hsz _); (case hsz => (first | omega | (simp; done) | (simp; omega) | (simp at *; omega)))) | (with_reducible refine Below.drew ?_) | (with_reducible refine below_drewN ?_ _) | ((with_reducible refine Below.trans ?_ (Below.mono (by with_reducible assumption) ?hsz)); (case hsz => (first | omega | (simp; done) | (simp; omega) | (simp at *; omega)))))))) hl7 HH.out.1 HH.out.2.1 HH.out.2.2).mono ?_
  rintro e w1 ⟨r1, rfl, hr1, hb1⟩
  have bx1 : Box2 w1 w.heap.size (.int .i64 N) (.slice A ps.length c) := (Box2.new w _ _ 25).keep hb1
  have hB1 : Below w.heap.size w w1 := by (repeat (first | (with_reducible assumption) | (with_reducible exact Below.refl _ _) | ((with_reducible refine Below.alloc ?_ ?hsz _); (case hsz => (first | omega | (simp; done) | (simp; omega) | (simp at *; omega)))) | ((with_reducible refine Below.setCell ?_ ?hsz _); (case hsz => (first | omega | (simp; done) | (simp; omega) | (simp at *; omega)))) | (with_reducible refine Below.drew ?_) | (with_reducible refine below_drewN ?_ _) | ((with_reducible refine Below.trans ?_ (Below.mono (by with_reducible assumption) ?hsz)); (case hsz => (first | omega | (simp; done) | (simp; omega) | (simp at *; omega))))))
  have hz1 := hB1.size
  obtain ⟨bs, d0, d1, -, -⟩ := id bx1
  obtain ⟨A1, c1, rfl, hc11, hc12, hsm1, hcell1⟩ := hr1.form
  unfold maxLen at hc12
  have hlS : (openL ps xs).length = (stL ps xs).length := by simp [openL_eq]
  rw [hlS] at hr1 hc11 hsm1 ⊢
  have hcell1 := Lib.hid hcell1
  have hlS := Lib.hid hlS
  go_wp2_with fail
  refine (stepsLeft_any N j _ _ ps xs b _ _ (hp0.keep hB1) hr1 HN.out j0 j1).mono ?_
  rintro e w2 ⟨r2, rfl, hr2, hb2⟩
  rw [Int.toNat_natCast] at hr2
  obtain ⟨gl, cl, rfl, hR⟩ := hr2.row (by rw [dstL_len]; omega)
  rw [dstL_len] at hR hr2 ⊢
  have bx2 := bx1.keep hb2
  have hB2 : Below w.heap.size w w2 := by (repeat (first | (with_reducible assumption) | (with_reducible exact Below.refl _ _) | ((with_reducible refine Below.alloc ?_ ?hsz _); (case hsz => (first | omega | (simp; done) | (simp; omega) | (simp at *; omega)))) | ((with_reducible refine Below.setCell ?_ ?hsz _); (case hsz => (first | omega | (simp; done) | (simp; omega) | (simp at *; omega)))) | (with_reducible refine Below.drew ?_) | (with_reducible refine below_drewN ?_ _) | ((with_reducible refine Below.trans ?_ (Below.mono (by with_reducible assumption) ?hsz)); (case hsz => (first | omega | (simp; done) | (simp; omega) | (simp at *; omega))))))
  have hr12 := hr1.keep hb2
  have hz2 := hb2.size
  obtain ⟨y0, -⟩ := hR.at' a (by omega)
  rw [dstL_at (by omega)] at y0
  obtain ⟨g1, g2⟩ := hR.lt
  obtain ⟨hcl1, hcl2⟩ := hR.capd
  unfold maxLen at hcl2
  obtain ⟨m, hm⟩ : ∃ m : Nat, dst (edgL ps xs) N (a : Int) j = m := ⟨_, rfl⟩
  have hmN : m ≤ N := hm ▸ dst_le_n
  rw [hm] at y0
  have Hm := Lib.hid hm
  have Hw2 : Hid (wayB N ps xs a j = decide (m < N)) := Lib.hid (by rw [Hw.out]; simp only [dis, Int.toNat_natCast, hm])
  have HB12 := Lib.hid hb2
  clear hm Hw bs d0 d1 bx1 hr1 hb1 hb2 hB1
  obtain ⟨bs, d0, d1, -, -⟩ := id bx2
  by_cases hmn : m < N
  · have hd1 : ((m : Int) == (N : Int)) = false := by rw [beq_eq_false_iff_ne]; omega
    have hd2 : decide ((m : Int) = (N : Int)) = false := by simp; omega
    have hd3 : Hid (wayB N ps xs a j = true) := Lib.hid (by rw [Hw2.out]; simpa using hmn)
    have g3 : gl < w2.heap.size + 1 := by omega
    have g4 : gl < w2.heap.size + 1 + 1 := by omega
    have g5 : gl < w2.heap.size + 1 + 1 + 1 := by omega
    go_wp2_with fail
    go_quiet (fail)
    go_wp2_with fail
    go_region
    · have hw4 : (w2.alloc (.cells #[.slice (some ⟨gl, 0, none⟩) N cl] 30)).heap.size = w2.heap.size + 1 := by simp
      obtain ⟨w4, hw4e⟩ : ∃ w4, w4 = w2.alloc (.cells #[.slice (some ⟨gl, 0, none⟩) N cl] 30) := ⟨_, rfl⟩
      rw [← hw4e] at hw4
      have hb24 : Below w2.heap.size w2 w4 := by rw [hw4e]; (repeat (first | (with_reducible assumption) | (with_reducible exact Below.refl _ _) | ((with_reducible refine Below.alloc ?_ ?hsz _); (case hsz => (first | omega | (simp; done) | (simp; omega) | (simp at *; omega)))) | ((with_reducible refine Below.setCell ?_ ?hsz _); (case hsz => (first | omega | (simp; done) | (simp; omega) | (simp at *; omega)))) | (with_reducible refine Below.drew ?_) | (with_reducible refine below_drewN ?_ _) | ((with_reducible refine Below.trans ?_ (Below.mono (by with_reducible assumption) ?hsz)); (case hsz => (first | omega | (simp; done) | (simp; omega) | (simp at *; omega))))))
      have P4 := (hp0.keep hB2).keep (hb24)
      have R4 := hr2.keep hb24
      have S4 := hr12.keep hb24
      have X4 := bx2.keep hb24
      have L4 : w4.cell? ⟨w2.heap.size, 0, none⟩ = some (.slice (some ⟨gl, 0, none⟩) N cl) := by rw [hw4e]; simp
      have HA := Lib.hid hp0
      rw [← hw4e]
      clear bs d0 d1 y0 g3 g4 g5 hR bx2 hr12 hr2
      go_wp2_with fail
      obtain ⟨i0', hi0, hz0, hz1', hz2'⟩ := info_parts int_info
      go_loopw [12, 13, 14] (fun t12 t13 t14 wr => ∃ (q node ga gb cp : Nat) (A2 : Option Addr) (acc : List Nat), q ≤ m ∧ t12 = .slice A2 acc.length cp ∧ t13 = .pointer (some ⟨ga, 0, none⟩) ∧ t14 = .pointer (some ⟨gb, 0, none⟩) ∧
          WayVars wr ga gb (node : Int) ((q : Int) - 1) ∧ w4.heap.size ≤ ga ∧ w4.heap.size ≤ gb ∧ dst (edgL ps xs) N (node : Int) j = q ∧ acc.length + q = m ∧ acc ++ wayL (N : Int) ps xs j q (node : Int) = wayL (N : Int) ps xs j m (a : Int) ∧
          wr.ownsRow w4.heap.size 3 1 (.slice A2 acc.length cp) acc.length ((ofS acc).map (Value.int .i64)) ∧ (∀ gw, (Value.slice A2 acc.length cp).ownBlock = some gw → gw ≠ ga ∧ gw ≠ gb) ∧ Below w4.heap.size w4 wr) (fun _ _ t14 wr => match t14 with | .pointer (some g) => (match wr.cell? g with | some (.int _ y) => (y + 1).toNat | _ => 0) | _ => 0)
      case atStart =>
        refine ⟨m, a, w2.heap.size + 1, w2.heap.size + 1 + 1, 0, none, [], by omega, rfl, rfl, rfl, ?_, by omega, by omega, Hm.out, by simp, rfl, World.ownsRow_nil _ _ _ 1, (by intro gw hgw; cases hgw), by (repeat (first | (with_reducible assumption) | (with_reducible exact Below.refl _ _) | ((with_reducible refine Below.alloc ?_ ?hsz _); (case hsz => (first | omega | (simp; done) | (simp; omega) | (simp at *; omega)))) | ((with_reducible refine Below.setCell ?_ ?hsz _); (case hsz => (first | omega | (simp; done) | (simp; omega) | (simp at *; omega)))) | (with_reducible refine Below.drew ?_) | (with_reducible refine below_drewN ?_ _) | ((with_reducible refine Below.trans ?_ (Below.mono (by with_reducible assumption) ?hsz)); (case hsz => (first | omega | (simp; done) | (simp; omega) | (simp at *; omega))))))⟩
        first | exact wayVars_new _ _ _ _ (by simpa using hw4) | exact wayVars_new' _ _ _ _ (by simpa using hw4)
      case round =>
        obtain ⟨q, node, ga, gb, cp, A2, acc, hq, rfl, rfl, rfl, hv, ga4, gb4, hdq, hal, hacc, hown, hne, hb⟩ := hrel
        obtain ⟨v1, v2, v3, v4, v5, v6, v7⟩ := id hv
        have hz := hb.size
        have hb2r : Below w2.heap.size w2 wr := hb24.trans (hb.mono hb24.size)
        by_cases hq0 : q = 0
        · subst hq0
          have hfin : Hid (wayI N ps xs a j = ofS acc) := Lib.hid (by
            rw [wayI, wayR, if_pos hd3.out]
            have e : dis (N : Int) ps xs a j = m := by rw [dis, Int.toNat_natCast]; exact Hm.out
            rw [e, ← hacc]; simp [wayL])
          have hneg : decide ((0 : Int) ≤ ((0 : Nat) : Int) - 1) = false := by decide
          clear hacc hdq
          go_wp2
          go_ret2
          refine ⟨_, ret_vb' hd3.out.symm, ?_, by (repeat (first | (with_reducible assumption) | (with_reducible exact Below.refl _ _) | ((with_reducible refine Below.alloc ?_ ?hsz _); (case hsz => (first | omega | (simp; done) | (simp; omega) | (simp at *; omega)))) | ((with_reducible refine Below.setCell ?_ ?hsz _); (case hsz => (first | omega | (simp; done) | (simp; omega) | (simp at *; omega)))) | (with_reducible refine Below.drew ?_) | (with_reducible refine below_drewN ?_ _) | ((with_reducible refine Below.trans ?_ (Below.mono (by with_reducible assumption) ?hsz)); (case hsz => (first | omega | (simp; done) | (simp; omega) | (simp at *; omega))))))⟩
          rw [hfin.out]
          exact ⟨own_mono (by simpa using hown) (by omega), by simp [small]; omega⟩
        · obtain ⟨p, rfl⟩ : ∃ p, q = p + 1 := ⟨q - 1, by omega⟩
          have hp1 : ((p + 1 : Nat) : Int) - 1 = (p : Int) := by omega
          rw [hp1] at v5
          have hpos : decide ((0 : Int) ≤ (p : Int)) = true := by simp
          have HV5 := Lib.hid v5
          obtain ⟨s, hs⟩ := nextS_is (n := (N : Int)) (ps := ps) (xs := xs) (c := j) (v := (node : Int)) (k := p) (by rw [dis, Int.toNat_natCast]; exact hdq) (by rw [Int.toNat_natCast]; omega)
          obtain ⟨s1, s2, s3, s4⟩ := nextS_some hs
          have hway : wayL (N : Int) ps xs j (p + 1) (node : Int) = s :: wayL (N : Int) ps xs j p (stTo ps s) := by rw [wayL, hs]
          rw [hway] at hacc
          have Hacc := Lib.hid hacc
          have HS := Lib.hid hs
          have HS4 := Lib.hid s4
          have HOWN := Lib.hid hown
          have HNE := Lib.hid hne
          obtain ⟨bs, d0, d1, -, -⟩ := id (X4.keep hb)
          have l0 := (hb.cell (p := ⟨w2.heap.size, 0, none⟩) (show w2.heap.size < w4.heap.size by omega)).trans L4
          clear hacc hs hway hdq s4 hown hne
          go_wp2_with fail
          refine (indexWay_any w.heap.size ga w2.heap.size gb (N : Int) (node : Int) p s _ _ _ ps xs j b _ _ wr (S4.keep hb) (P4.keep hb) (by rw [Int.toNat_natCast]; exact R4.keep hb) HN.out HS.out d1 v4 l0 v5 (by omega) v1 (by omega) v2).mono ?_
          rintro e w5 ⟨idx, hidx, rfl, hsi, hb5⟩
          have hvp : WayVars wr ga gb (node : Int) (p : Int) := ⟨v1, v2, v3, v4, v5, v6, v7⟩
          have hz5 := hb5.size
          have hown5 := own_keep HOWN.out (Nat.le_refl _) hb5
          have hB5 : Below w4.heap.size w4 w5 := hb.trans (hb5.mono hz)
          have hb15 : Below w1.heap.size w1 w5 := HB12.out.trans ((hb2r.trans (hb5.mono (by omega))).mono hz2)
          obtain ⟨gS, rfl, gs1, gs2, cs, -⟩ := hcell1.out w5 hb15 idx (by rw [hlS.out]; exact hidx)
          replace cs : w5.cell? ⟨gS, idx, none⟩ = some (.int .i64 (s : Int)) := by rw [cs]; simp [openL_eq, hsi]
          have hv5 := hvp.keep hb5
          have hrow : ∀ q, (Value.slice A2 acc.length cp).ownBlock = some q → w4.heap.size ≤ q := fun q hq => (hown5.lt q hq).1
          have gs3 : gS < w5.heap.size := by omega
          clear bs d0 d1 l0 v1 v2 v3 v4 v5 v6 v7 hv hvp hb15
          go_wp2_with (first
            | (at_builtin
               go_must (refine wpList_append_lies _ rfl _ _ 30 rfl w4.heap.size 3 i0' _ 1 8 Tryz.underlying30 hi0 hz0 hz1' hz2' rfl (by omega) _ acc.length _ rfl (hown5.alloc _) ⟨w5.heap.size, 0, none⟩ 1 1 [.int .i64 (s : Int)] rfl rfl (World.news_of_block (cs := #[.int .i64 (s : Int)]) (t := 3) (fr := (0, 0)) (heap_alloc_new _ _)) (by simp [Value.oneCell']) (by omega) (by unfold maxLen; omega) (by omega) (by simp; omega) _ rfl ?_)
               intro g2 k2 w7 hown7 hgr7 hat7 hlt7))
          have hB7 : Below w4.heap.size w4 w7 := Below.grown (w := w5.alloc (.cells #[.int .i64 (s : Int)] 3)) (by (repeat (first | (with_reducible assumption) | (with_reducible exact Below.refl _ _) | ((with_reducible refine Below.alloc ?_ ?hsz _); (case hsz => (first | omega | (simp; done) | (simp; omega) | (simp at *; omega)))) | ((with_reducible refine Below.setCell ?_ ?hsz _); (case hsz => (first | omega | (simp; done) | (simp; omega) | (simp at *; omega)))) | (with_reducible refine Below.drew ?_) | (with_reducible refine below_drewN ?_ _) | ((with_reducible refine Below.trans ?_ (Below.mono (by with_reducible assumption) ?hsz)); (case hsz => (first | omega | (simp; done) | (simp; omega) | (simp at *; omega))))))) hgr7 (by (first | omega | (simp; done) | (simp; omega) | (simp at *; omega))) (fun q hq => hrow q hq)
          have hv7 : WayVars w7 ga gb (node : Int) (p : Int) := (hv5.keep ((Below.refl _ _).alloc (Nat.le_refl _) _)).grown hgr7 (fun hh => (HNE.out _ hh.symm).1 rfl) (fun hh => (HNE.out _ hh.symm).2 rfl)
          have hne7 : g2 ≠ ga ∧ g2 ≠ gb := by
            obtain ⟨u1, u2, -⟩ := hv5
            rcases hat7 with hat7 | hat7
            · exact HNE.out _ hat7
            · simp at hat7; omega
          have hown8 : w7.ownsRow w4.heap.size 3 1 (.slice (some ⟨g2, 0, none⟩) (acc ++ [s]).length k2) (acc ++ [s]).length ((ofS (acc ++ [s])).map (Value.int .i64)) := by
            have e : (acc ++ [s]).length = acc.length + 1 := by simp
            rw [e]
            simpa [ofS] using hown7
          clear cs hown5 hv5 hown7 hgr7 hat7
          obtain ⟨v1, v2, v3, v4, v5, v6, v7⟩ := id hv7
          obtain ⟨bs, d0, d1, -, -⟩ := id (X4.keep hB7)
          have hz7 := hB7.size
          have hb17 : Below w1.heap.size w1 w7 := HB12.out.trans ((hb24.trans (hB7.mono (by omega))).mono hz2)
          obtain ⟨gS', hgS', -, gs4, cs, -⟩ := hcell1.out w7 hb17 idx (by rw [hlS.out]; exact hidx)
          have hgS : gS' = gS := by simp at hgS'; exact hgS'.symm
          subst hgS
          replace cs : w7.cell? ⟨gS', idx, none⟩ = some (.int .i64 (s : Int)) := by rw [cs]; simp [openL_eq, hsi]
          have P7 := P4.keep hB7
          have gs5 : gS' < w7.heap.size := by omega
          obtain ⟨-, ⟨e0, e1⟩, -⟩ := st_ends HN.out s1
          obtain ⟨nd, hnd⟩ : ∃ nd : Nat, stTo ps s = (nd : Int) := ⟨(stTo ps s).toNat, by omega⟩
          have Hnd := Lib.hid hnd
          clear hnd e0 e1
          go_region_with ((go_at_call 142; (with_reducible refine (stepEnds_any s _ ps b _ (P7.keep (Below.drew (Below.refl _ _))) s1 hl7).mono ?_); rintro e w8 ⟨rfl, hb8⟩; rw [Hnd.out]; have hc8 := (hb8.cell (p := ⟨ga, 0, none⟩) v1).trans v4; have hf8 := (hb8.frozen (p := ⟨ga, 0, none⟩) v1).trans v6))
          all_goals
            have hb78 : Below w7.heap.size w7 w8 := ((Below.refl _ _).drew).trans hb8
            have hv8 : WayVars w8 ga gb (node : Int) (p : Int) := hv7.keep hb78
            have hz8 := hb78.size
            have hown9 := ownsRow_setCell_far (own_keep hown8 (Nat.le_refl _) hb78) (a := ⟨ga, 0, none⟩) hne7.1 (.int .i64 (nd : Int))
            have hB9 : Below w4.heap.size w4 (w8.setCell ⟨ga, 0, none⟩ (.int .i64 (nd : Int))) := (hB7.trans (hb78.mono hz7)).setCell (by simpa using ga4) _
            have hv9 := hv8.set0 (nd : Int)
            have hz9 : w7.heap.size ≤ (w8.setCell ⟨ga, 0, none⟩ (.int .i64 (nd : Int))).heap.size := by simpa using hz8
            obtain ⟨w9, hw9⟩ : ∃ w9, w9 = w8.setCell ⟨ga, 0, none⟩ (.int .i64 (nd : Int)) := ⟨_, rfl⟩
            rw [← hw9] at hown9 hB9 hv9 hz9 ⊢
            clear hw9 hc8 hf8 hb78 hv8 hv7 hB7 hb8 d0 d1 bs v1 v2 v3 v4 v5 v6 v7 cs P7 hown8
            obtain ⟨v1, v2, v3, v4, v5, v6, v7⟩ := id hv9
            go_wp2
            have hm9 := (wayVars_new w9 w9.heap.size (nd : Int) ((p : Int) - 1) rfl).2.2.2.2.1
            have hz94 := hB9.size
            refine ⟨⟨p, nd, w9.heap.size, w9.heap.size + 1, k2, some ⟨g2, 0, none⟩, acc ++ [s], by omega, by simp, rfl, rfl, wayVars_new _ _ _ _ rfl, by omega, by omega, ?_, by simp; omega, ?_, (hown9.alloc _).alloc _, ?_, by (repeat (first | (with_reducible assumption) | (with_reducible exact Below.refl _ _) | ((with_reducible refine Below.alloc ?_ ?hsz _); (case hsz => (first | omega | (simp; done) | (simp; omega) | (simp at *; omega)))) | ((with_reducible refine Below.setCell ?_ ?hsz _); (case hsz => (first | omega | (simp; done) | (simp; omega) | (simp at *; omega)))) | (with_reducible refine Below.drew ?_) | (with_reducible refine below_drewN ?_ _) | ((with_reducible refine Below.trans ?_ (Below.mono (by with_reducible assumption) ?hsz)); (case hsz => (first | omega | (simp; done) | (simp; omega) | (simp at *; omega))))))⟩, ?_⟩
            · have := HS4.out
              rw [Hnd.out] at this
              simpa only [dis, Int.toNat_natCast] using this
            · have := Hacc.out
              rw [Hnd.out] at this
              simpa using this
            · intro gw hgw
              have hgw' : g2 = gw := by injection hgw
              omega
            · simp only [hm9, HV5.out]
              omega
    · have hw4 : (w2.alloc (.cells #[.slice (some ⟨gl, 0, none⟩) N cl] 30)).heap.size = w2.heap.size + 1 := by simp
      obtain ⟨w4, hw4e⟩ : ∃ w4, w4 = w2.alloc (.cells #[.slice (some ⟨gl, 0, none⟩) N cl] 30) := ⟨_, rfl⟩
      rw [← hw4e] at hw4
      have hb24 : Below w2.heap.size w2 w4 := by rw [hw4e]; (repeat (first | (with_reducible assumption) | (with_reducible exact Below.refl _ _) | ((with_reducible refine Below.alloc ?_ ?hsz _); (case hsz => (first | omega | (simp; done) | (simp; omega) | (simp at *; omega)))) | ((with_reducible refine Below.setCell ?_ ?hsz _); (case hsz => (first | omega | (simp; done) | (simp; omega) | (simp at *; omega)))) | (with_reducible refine Below.drew ?_) | (with_reducible refine below_drewN ?_ _) | ((with_reducible refine Below.trans ?_ (Below.mono (by with_reducible assumption) ?hsz)); (case hsz => (first | omega | (simp; done) | (simp; omega) | (simp at *; omega))))))
      have P4 := (hp0.keep hB2).keep (hb24)
      have R4 := hr2.keep hb24
      have S4 := hr12.keep hb24
      have X4 := bx2.keep hb24
      have L4 : w4.cell? ⟨w2.heap.size, 0, none⟩ = some (.slice (some ⟨gl, 0, none⟩) N cl) := by rw [hw4e]; simp
      have HA := Lib.hid hp0
      rw [← hw4e]
      clear bs d0 d1 y0 g3 g4 g5 hR bx2 hr12 hr2
      go_wp2_with fail
      obtain ⟨i0', hi0, hz0, hz1', hz2'⟩ := info_parts int_info
      go_loopw [12, 13, 14] (fun t12 t13 t14 wr => ∃ (q node ga gb cp : Nat) (A2 : Option Addr) (acc : List Nat), q ≤ m ∧ t12 = .slice A2 acc.length cp ∧ t13 = .pointer (some ⟨ga, 0, none⟩) ∧ t14 = .pointer (some ⟨gb, 0, none⟩) ∧
          WayVars wr ga gb (node : Int) ((q : Int) - 1) ∧ w4.heap.size ≤ ga ∧ w4.heap.size ≤ gb ∧ dst (edgL ps xs) N (node : Int) j = q ∧ acc.length + q = m ∧ acc ++ wayL (N : Int) ps xs j q (node : Int) = wayL (N : Int) ps xs j m (a : Int) ∧
          wr.ownsRow w4.heap.size 3 1 (.slice A2 acc.length cp) acc.length ((ofS acc).map (Value.int .i64)) ∧ (∀ gw, (Value.slice A2 acc.length cp).ownBlock = some gw → gw ≠ ga ∧ gw ≠ gb) ∧ Below w4.heap.size w4 wr) (fun _ _ t14 wr => match t14 with | .pointer (some g) => (match wr.cell? g with | some (.int _ y) => (y + 1).toNat | _ => 0) | _ => 0)
      case atStart =>
        refine ⟨m, a, w2.heap.size + 1 + 1, w2.heap.size + 1, 0, none, [], by omega, rfl, rfl, rfl, ?_, by omega, by omega, Hm.out, by simp, rfl, World.ownsRow_nil _ _ _ 1, (by intro gw hgw; cases hgw), by (repeat (first | (with_reducible assumption) | (with_reducible exact Below.refl _ _) | ((with_reducible refine Below.alloc ?_ ?hsz _); (case hsz => (first | omega | (simp; done) | (simp; omega) | (simp at *; omega)))) | ((with_reducible refine Below.setCell ?_ ?hsz _); (case hsz => (first | omega | (simp; done) | (simp; omega) | (simp at *; omega)))) | (with_reducible refine Below.drew ?_) | (with_reducible refine below_drewN ?_ _) | ((with_reducible refine Below.trans ?_ (Below.mono (by with_reducible assumption) ?hsz)); (case hsz => (first | omega | (simp; done) | (simp; omega) | (simp at *; omega))))))⟩
        first | exact wayVars_new _ _ _ _ (by simpa using hw4) | exact wayVars_new' _ _ _ _ (by simpa using hw4)
      case round =>
        obtain ⟨q, node, ga, gb, cp, A2, acc, hq, rfl, rfl, rfl, hv, ga4, gb4, hdq, hal, hacc, hown, hne, hb⟩ := hrel
        obtain ⟨v1, v2, v3, v4, v5, v6, v7⟩ := id hv
        have hz := hb.size
        have hb2r : Below w2.heap.size w2 wr := hb24.trans (hb.mono hb24.size)
        by_cases hq0 : q = 0
        · subst hq0
          have hfin : Hid (wayI N ps xs a j = ofS acc) := Lib.hid (by
            rw [wayI, wayR, if_pos hd3.out]
            have e : dis (N : Int) ps xs a j = m := by rw [dis, Int.toNat_natCast]; exact Hm.out
            rw [e, ← hacc]; simp [wayL])
          have hneg : decide ((0 : Int) ≤ ((0 : Nat) : Int) - 1) = false := by decide
          clear hacc hdq
          go_wp2
          go_ret2
          refine ⟨_, ret_vb' hd3.out.symm, ?_, by (repeat (first | (with_reducible assumption) | (with_reducible exact Below.refl _ _) | ((with_reducible refine Below.alloc ?_ ?hsz _); (case hsz => (first | omega | (simp; done) | (simp; omega) | (simp at *; omega)))) | ((with_reducible refine Below.setCell ?_ ?hsz _); (case hsz => (first | omega | (simp; done) | (simp; omega) | (simp at *; omega)))) | (with_reducible refine Below.drew ?_) | (with_reducible refine below_drewN ?_ _) | ((with_reducible refine Below.trans ?_ (Below.mono (by with_reducible assumption) ?hsz)); (case hsz => (first | omega | (simp; done) | (simp; omega) | (simp at *; omega))))))⟩
          rw [hfin.out]
          exact ⟨own_mono (by simpa using hown) (by omega), by simp [small]; omega⟩
        · obtain ⟨p, rfl⟩ : ∃ p, q = p + 1 := ⟨q - 1, by omega⟩
          have hp1 : ((p + 1 : Nat) : Int) - 1 = (p : Int) := by omega
          rw [hp1] at v5
          have hpos : decide ((0 : Int) ≤ (p : Int)) = true := by simp
          have HV5 := Lib.hid v5
          obtain ⟨s, hs⟩ := nextS_is (n := (N : Int)) (ps := ps) (xs := xs) (c := j) (v := (node : Int)) (k := p) (by rw [dis, Int.toNat_natCast]; exact hdq) (by rw [Int.toNat_natCast]; omega)
          obtain ⟨s1, s2, s3, s4⟩ := nextS_some hs
          have hway : wayL (N : Int) ps xs j (p + 1) (node : Int) = s :: wayL (N : Int) ps xs j p (stTo ps s) := by rw [wayL, hs]
          rw [hway] at hacc
          have Hacc := Lib.hid hacc
          have HS := Lib.hid hs
          have HS4 := Lib.hid s4
          have HOWN := Lib.hid hown
          have HNE := Lib.hid hne
          obtain ⟨bs, d0, d1, -, -⟩ := id (X4.keep hb)
          have l0 := (hb.cell (p := ⟨w2.heap.size, 0, none⟩) (show w2.heap.size < w4.heap.size by omega)).trans L4
          clear hacc hs hway hdq s4 hown hne
          go_wp2_with fail
          refine (indexWay_any w.heap.size ga w2.heap.size gb (N : Int) (node : Int) p s _ _ _ ps xs j b _ _ wr (S4.keep hb) (P4.keep hb) (by rw [Int.toNat_natCast]; exact R4.keep hb) HN.out HS.out d1 v4 l0 v5 (by omega) v1 (by omega) v2).mono ?_
          rintro e w5 ⟨idx, hidx, rfl, hsi, hb5⟩
          have hvp : WayVars wr ga gb (node : Int) (p : Int) := ⟨v1, v2, v3, v4, v5, v6, v7⟩
          have hz5 := hb5.size
          have hown5 := own_keep HOWN.out (Nat.le_refl _) hb5
          have hB5 : Below w4.heap.size w4 w5 := hb.trans (hb5.mono hz)
          have hb15 : Below w1.heap.size w1 w5 := HB12.out.trans ((hb2r.trans (hb5.mono (by omega))).mono hz2)
          obtain ⟨gS, rfl, gs1, gs2, cs, -⟩ := hcell1.out w5 hb15 idx (by rw [hlS.out]; exact hidx)
          replace cs : w5.cell? ⟨gS, idx, none⟩ = some (.int .i64 (s : Int)) := by rw [cs]; simp [openL_eq, hsi]
          have hv5 := hvp.keep hb5
          have hrow : ∀ q, (Value.slice A2 acc.length cp).ownBlock = some q → w4.heap.size ≤ q := fun q hq => (hown5.lt q hq).1
          have gs3 : gS < w5.heap.size := by omega
          clear bs d0 d1 l0 v1 v2 v3 v4 v5 v6 v7 hv hvp hb15
          go_wp2_with (first
            | (at_builtin
               go_must (refine wpList_append_lies _ rfl _ _ 30 rfl w4.heap.size 3 i0' _ 1 8 Tryz.underlying30 hi0 hz0 hz1' hz2' rfl (by omega) _ acc.length _ rfl (hown5.alloc _) ⟨w5.heap.size, 0, none⟩ 1 1 [.int .i64 (s : Int)] rfl rfl (World.news_of_block (cs := #[.int .i64 (s : Int)]) (t := 3) (fr := (0, 0)) (heap_alloc_new _ _)) (by simp [Value.oneCell']) (by omega) (by unfold maxLen; omega) (by omega) (by simp; omega) _ rfl ?_)
               intro g2 k2 w7 hown7 hgr7 hat7 hlt7))
          have hB7 : Below w4.heap.size w4 w7 := Below.grown (w := w5.alloc (.cells #[.int .i64 (s : Int)] 3)) (by (repeat (first | (with_reducible assumption) | (with_reducible exact Below.refl _ _) | ((with_reducible refine Below.alloc ?_ ?hsz _); (case hsz => (first | omega | (simp; done) | (simp; omega) | (simp at *; omega)))) | ((with_reducible refine Below.setCell ?_ ?hsz _); (case hsz => (first | omega | (simp; done) | (simp; omega) | (simp at *; omega)))) | (with_reducible refine Below.drew ?_) | (with_reducible refine below_drewN ?_ _) | ((with_reducible refine Below.trans ?_ (Below.mono (by with_reducible assumption) ?hsz)); (case hsz => (first | omega | (simp; done) | (simp; omega) | (simp at *; omega))))))) hgr7 (by (first | omega | (simp; done) | (simp; omega) | (simp at *; omega))) (fun q hq => hrow q hq)
          have hv7 : WayVars w7 ga gb (node : Int) (p : Int) := (hv5.keep ((Below.refl _ _).alloc (Nat.le_refl _) _)).grown hgr7 (fun hh => (HNE.out _ hh.symm).1 rfl) (fun hh => (HNE.out _ hh.symm).2 rfl)
          have hne7 : g2 ≠ ga ∧ g2 ≠ gb := by
            obtain ⟨u1, u2, -⟩ := hv5
            rcases hat7 with hat7 | hat7
            · exact HNE.out _ hat7
            · simp at hat7; omega
          have hown8 : w7.ownsRow w4.heap.size 3 1 (.slice (some ⟨g2, 0, none⟩) (acc ++ [s]).length k2) (acc ++ [s]).length ((ofS (acc ++ [s])).map (Value.int .i64)) := by
            have e : (acc ++ [s]).length = acc.length + 1 := by simp
            rw [e]
            simpa [ofS] using hown7
          clear cs hown5 hv5 hown7 hgr7 hat7
          obtain ⟨v1, v2, v3, v4, v5, v6, v7⟩ := id hv7
          obtain ⟨bs, d0, d1, -, -⟩ := id (X4.keep hB7)
          have hz7 := hB7.size
          have hb17 : Below w1.heap.size w1 w7 := HB12.out.trans ((hb24.trans (hB7.mono (by omega))).mono hz2)
          obtain ⟨gS', hgS', -, gs4, cs, -⟩ := hcell1.out w7 hb17 idx (by rw [hlS.out]; exact hidx)
          have hgS : gS' = gS := by simp at hgS'; exact hgS'.symm
          subst hgS
          replace cs : w7.cell? ⟨gS', idx, none⟩ = some (.int .i64 (s : Int)) := by rw [cs]; simp [openL_eq, hsi]
          have P7 := P4.keep hB7
          have gs5 : gS' < w7.heap.size := by omega
          obtain ⟨-, ⟨e0, e1⟩, -⟩ := st_ends HN.out s1
          obtain ⟨nd, hnd⟩ : ∃ nd : Nat, stTo ps s = (nd : Int) := ⟨(stTo ps s).toNat, by omega⟩
          have Hnd := Lib.hid hnd
          clear hnd e0 e1
          go_region_with ((go_at_call 142; (with_reducible refine (stepEnds_any s _ ps b _ (P7.keep (Below.drew (Below.refl _ _))) s1 hl7).mono ?_); rintro e w8 ⟨rfl, hb8⟩; rw [Hnd.out]; have hc8 := (hb8.cell (p := ⟨ga, 0, none⟩) v1).trans v4; have hf8 := (hb8.frozen (p := ⟨ga, 0, none⟩) v1).trans v6))
          all_goals
            have hb78 : Below w7.heap.size w7 w8 := ((Below.refl _ _).drew).trans hb8
            have hv8 : WayVars w8 ga gb (node : Int) (p : Int) := hv7.keep hb78
            have hz8 := hb78.size
            have hown9 := ownsRow_setCell_far (own_keep hown8 (Nat.le_refl _) hb78) (a := ⟨ga, 0, none⟩) hne7.1 (.int .i64 (nd : Int))
            have hB9 : Below w4.heap.size w4 (w8.setCell ⟨ga, 0, none⟩ (.int .i64 (nd : Int))) := (hB7.trans (hb78.mono hz7)).setCell (by simpa using ga4) _
            have hv9 := hv8.set0 (nd : Int)
            have hz9 : w7.heap.size ≤ (w8.setCell ⟨ga, 0, none⟩ (.int .i64 (nd : Int))).heap.size := by simpa using hz8
            obtain ⟨w9, hw9⟩ : ∃ w9, w9 = w8.setCell ⟨ga, 0, none⟩ (.int .i64 (nd : Int)) := ⟨_, rfl⟩
            rw [← hw9] at hown9 hB9 hv9 hz9 ⊢
            clear hw9 hc8 hf8 hb78 hv8 hv7 hB7 hb8 d0 d1 bs v1 v2 v3 v4 v5 v6 v7 cs P7 hown8
            obtain ⟨v1, v2, v3, v4, v5, v6, v7⟩ := id hv9
            go_wp2
            have hm9 := (wayVars_new w9 w9.heap.size (nd : Int) ((p : Int) - 1) rfl).2.2.2.2.1
            have hz94 := hB9.size
            refine ⟨⟨p, nd, w9.heap.size, w9.heap.size + 1, k2, some ⟨g2, 0, none⟩, acc ++ [s], by omega, by simp, rfl, rfl, wayVars_new _ _ _ _ rfl, by omega, by omega, ?_, by simp; omega, ?_, (hown9.alloc _).alloc _, ?_, by (repeat (first | (with_reducible assumption) | (with_reducible exact Below.refl _ _) | ((with_reducible refine Below.alloc ?_ ?hsz _); (case hsz => (first | omega | (simp; done) | (simp; omega) | (simp at *; omega)))) | ((with_reducible refine Below.setCell ?_ ?hsz _); (case hsz => (first | omega | (simp; done) | (simp; omega) | (simp at *; omega)))) | (with_reducible refine Below.drew ?_) | (with_reducible refine below_drewN ?_ _) | ((with_reducible refine Below.trans ?_ (Below.mono (by with_reducible assumption) ?hsz)); (case hsz => (first | omega | (simp; done) | (simp; omega) | (simp at *; omega))))))⟩, ?_⟩
            · have := HS4.out
              rw [Hnd.out] at this
              simpa only [dis, Int.toNat_natCast] using this
            · have := Hacc.out
              rw [Hnd.out] at this
              simpa using this
            · intro gw hgw
              have hgw' : g2 = gw := by injection hgw
              omega
            · simp only [hm9, HV5.out]
              omega
  · have hmN2 : m = N := by omega
    subst hmN2
    have hd1 : ((m : Int) == (m : Int)) = true := by simp
    have hd3 : Hid (wayB m ps xs a j = false) := Lib.hid (by rw [Hw2.out]; simp)
    go_wp2_with fail
    go_quiet (fail)
    go_wp2
    go_ret2
    refine ⟨_, ret_vb' hd3.out.symm, ?_, by (repeat (first | (with_reducible assumption) | (with_reducible exact Below.refl _ _) | ((with_reducible refine Below.alloc ?_ ?hsz _); (case hsz => (first | omega | (simp; done) | (simp; omega) | (simp at *; omega)))) | ((with_reducible refine Below.setCell ?_ ?hsz _); (case hsz => (first | omega | (simp; done) | (simp; omega) | (simp at *; omega)))) | (with_reducible refine Below.drew ?_) | (with_reducible refine below_drewN ?_ _) | ((with_reducible refine Below.trans ?_ (Below.mono (by with_reducible assumption) ?hsz)); (case hsz => (first | omega | (simp; done) | (simp; omega) | (simp at *; omega))))))⟩
    rw [wayI, wayR_no hd3.out]
    exact Ints_nil _ _

end Go.Proofs.YtmgpekdhcghabaaGreat
