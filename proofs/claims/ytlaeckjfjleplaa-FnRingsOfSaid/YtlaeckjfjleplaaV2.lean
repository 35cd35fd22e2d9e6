/- Contracts of the functions of chapter 4 in the program: the nodes along a walk. -/
import Derived.Test.YtlaeckjfjleplaaV1
namespace Go.Proofs.Ytlaeckjfjleplaa
open Go.RowKit

theorem take_getD {L : List Int} {j : Nat} (h : j < L.length) : L.take (j + 1) = L.take j ++ [L.getD j 0] := by
  rw [List.take_succ_eq_append_getElem h]
  simp [List.getD_eq_getElem?_getD, h]

set_option maxHeartbeats 1000000 in
set_option maxRecDepth 20000 in
theorem indexPre_any (x : Int) (g k c : Nat) (L : List Int) (w : World) (hL : ∀ j, j < k → w.cell? ⟨g, j, none⟩ = some (.int .i64 (L.getD j 0))) (hg : g < w.heap.size) (hk : k ≤ L.length) (hk6 : k ≤ 6) (hc : k ≤ c) (hc2 : c ≤ maxLen) :
    Calls Try.prog 105 #[.slice (some ⟨g, 0, none⟩) k c, .int .i64 x] w fun e w' => ∃ r : Int, e = .returned (.int .i64 r) ∧ ((r = -1 ∧ x ∉ L.take k) ∨ (∃ j : Nat, r = (j : Int) ∧ j < k ∧ L.getD j 0 = x ∧ x ∉ L.take j)) ∧ Below w.heap.size w w' := by
  unfold maxLen at hc2
  have HL := Lib.hid hL
  clear hL
  go_enter Try.func105, Try.ntmps105
  go_wp2
  go_loopw [8] (fun i wr => ∃ j : Nat, j ≤ k ∧ i = .int .i64 j ∧ x ∉ L.take j ∧ Below w.heap.size w wr) (fun i _ => k - (intOf i).toNat)
  case atStart => exact ⟨0, by omega, rfl, by simp, Below.refl _ _⟩
  case round =>
    obtain ⟨j, hj, rfl, hall, hb⟩ := hrel
    have Hall := Lib.hid hall
    clear hall
    have hzb := hb.size
    by_cases hlt : j < k
    · have cx := (hb.cell (p := ⟨g, j, none⟩) hg).trans (HL.out j hlt)
      have hjl : j < L.length := by omega
      have Ht := Lib.hid (take_getD hjl)
      generalize hy : L.getD j 0 = y at *
      have hgr : g < wr.heap.size := by omega
      by_cases hxy : x = y
      · have hxb : (x == y) = true := by simpa using hxy
        have Hy := Lib.hid (And.intro hy hxy)
        clear hxy hy
        go_wp2
        go_ret
        exact ⟨_, rfl, .inr ⟨j, rfl, hlt, by rw [Hy.out.1, Hy.out.2], Hall.out⟩, by (repeat (first | (with_reducible assumption) | (with_reducible exact Below.refl _ _) | ((with_reducible refine Below.alloc ?_ ?hsz _); (case hsz => (first | omega | (simp; done) | (simp; omega) | (simp at *; omega)))) | ((with_reducible refine Below.setCell ?_ ?hsz _); (case hsz => (first | omega | (simp; done) | (simp; omega) | (simp at *; omega)))) | (with_reducible refine Below.drew ?_) | (with_reducible refine below_drewN ?_ _) | ((with_reducible refine Below.trans ?_ (Below.mono (by with_reducible assumption) ?hsz)); (case hsz => (first | omega | (simp; done) | (simp; omega) | (simp at *; omega))))))⟩
      · have hxb : (x == y) = false := by simpa using hxy
        have Hn := Lib.hid (show x ∉ L.take (j + 1) by
          rw [Ht.out, List.mem_append]
          rintro (h | h)
          · exact Hall.out h
          · simp at h; exact hxy h)
        clear hxy hy
        go_wp2
        go_roundw
        case rel => exact ⟨j + 1, by omega, by go_num, Hn.out, by (repeat (first | (with_reducible assumption) | (with_reducible exact Below.refl _ _) | ((with_reducible refine Below.alloc ?_ ?hsz _); (case hsz => (first | omega | (simp; done) | (simp; omega) | (simp at *; omega)))) | ((with_reducible refine Below.setCell ?_ ?hsz _); (case hsz => (first | omega | (simp; done) | (simp; omega) | (simp at *; omega)))) | (with_reducible refine Below.drew ?_) | (with_reducible refine below_drewN ?_ _) | ((with_reducible refine Below.trans ?_ (Below.mono (by with_reducible assumption) ?hsz)); (case hsz => (first | omega | (simp; done) | (simp; omega) | (simp at *; omega))))))⟩
        case measure => simp [intOf]; omega
    · have hjk : j = k := by omega
      subst hjk
      go_wp2
      go_ret
      exact ⟨_, rfl, .inl ⟨rfl, Hall.out⟩, hb⟩

set_option maxHeartbeats 1000000 in
set_option maxRecDepth 20000 in
theorem containsPre_any (x : Int) (g k c : Nat) (L : List Int) (w : World) (hL : ∀ j, j < k → w.cell? ⟨g, j, none⟩ = some (.int .i64 (L.getD j 0))) (hg : g < w.heap.size) (hk : k ≤ L.length) (hk6 : k ≤ 6) (hc : k ≤ c) (hc2 : c ≤ maxLen) :
    Calls Try.prog 92 #[.slice (some ⟨g, 0, none⟩) k c, .int .i64 x] w fun e w' => e = .returned (.bool (decide (x ∈ L.take k))) ∧ Below w.heap.size w w' := by
  have hc2' := hc2
  unfold maxLen at hc2
  go_enter Try.func92, Try.ntmps92
  go_wp2_with fail
  refine (indexPre_any x g k c L _ hL hg hk hk6 hc hc2').mono ?_
  rintro e w1 ⟨r, rfl, hr, hb1⟩
  have hr2 : decide (0 ≤ r) = decide (x ∈ L.take k) := by
    rcases hr with ⟨rfl, h⟩ | ⟨j, rfl, h1, h2, -⟩
    · simp [h]
    · have : x ∈ L.take k := by
        rw [List.mem_take_iff_getElem]
        exact ⟨j, by omega, by rw [← h2]; simp [List.getD_eq_getElem?_getD, show j < L.length by omega]⟩
      simp [this]
  have Hr := Lib.hid hr2
  clear hr hr2
  go_wp2
  go_ret
  exact ⟨by first | exact ret_bool Hr.out | rfl, by (repeat (first | (with_reducible assumption) | (with_reducible exact Below.refl _ _) | ((with_reducible refine Below.alloc ?_ ?hsz _); (case hsz => (first | omega | (simp; done) | (simp; omega) | (simp at *; omega)))) | ((with_reducible refine Below.setCell ?_ ?hsz _); (case hsz => (first | omega | (simp; done) | (simp; omega) | (simp at *; omega)))) | (with_reducible refine Below.drew ?_) | (with_reducible refine below_drewN ?_ _) | ((with_reducible refine Below.trans ?_ (Below.mono (by with_reducible assumption) ?hsz)); (case hsz => (first | omega | (simp; done) | (simp; omega) | (simp at *; omega))))))⟩

set_option maxHeartbeats 1000000 in
set_option maxRecDepth 20000 in
theorem allDiffer_any (g m c : Nat) (L : List Int) (w : World) (hL : ∀ j, j < m → w.cell? ⟨g, j, none⟩ = some (.int .i64 (L.getD j 0))) (hg : g < w.heap.size) (hm : m ≤ L.length) (hm6 : m ≤ 6) (hc : m ≤ c) (hc2 : c ≤ maxLen) :
    Calls Try.prog 49 #[.slice (some ⟨g, 0, none⟩) m c] w fun e w' => e = .returned (.bool (decide (L.take m).Nodup)) ∧ Below w.heap.size w w' := by
  have hc2' := hc2
  unfold maxLen at hc2
  have HL := Lib.hid hL
  clear hL
  go_enter Try.func49, Try.ntmps49
  go_wp2
  go_loopw [7] (fun i wr => ∃ j : Nat, j ≤ m ∧ i = .int .i64 j ∧ (L.take j).Nodup ∧ Below w.heap.size w wr) (fun i _ => m - (intOf i).toNat)
  case atStart => exact ⟨0, by omega, rfl, by simp, Below.refl _ _⟩
  case round =>
    obtain ⟨j, hj, rfl, hall, hb⟩ := hrel
    have Hall := Lib.hid hall
    clear hall
    have hzb := hb.size
    by_cases hlt : j < m
    · have cx := (hb.cell (p := ⟨g, j, none⟩) hg).trans (HL.out j hlt)
      have hjl : j < L.length := by omega
      have Ht := Lib.hid (take_getD hjl)
      have hgr : g < wr.heap.size := by omega
      have Hc : Hid (∀ i, i < j → wr.cell? ⟨g, i, none⟩ = some (.int .i64 (L.getD i 0))) := Lib.hid fun i hi => (hb.cell (p := ⟨g, i, none⟩) hg).trans (HL.out i (by omega))
      generalize hy : L.getD j 0 = y at *
      by_cases hxy : y ∈ L.take j
      · have Hn := Lib.hid (show decide (L.take m).Nodup = false by
          rw [decide_eq_false_iff_not]
          intro h
          have h2 : (L.take (j + 1)).Nodup := by
            rw [show L.take (j + 1) = (L.take m).take (j + 1) by rw [List.take_take]; congr 1; omega]
            exact h.sublist (List.take_sublist _ _)
          rw [Ht.out, nodup_snoc] at h2
          exact h2.2 hxy)
        go_wp2_with fail
        all_goals
          refine (containsPre_any y g j c L _ Hc.out hgr (by omega) (by omega) (by omega) hc2').mono ?_
          rintro e w1 ⟨rfl, hb1⟩
          rw [decide_eq_true hxy]
          go_wp2
          go_ret
          exact ⟨ret_bool Hn.out.symm, by (repeat (first | (with_reducible assumption) | (with_reducible exact Below.refl _ _) | ((with_reducible refine Below.alloc ?_ ?hsz _); (case hsz => (first | omega | (simp; done) | (simp; omega) | (simp at *; omega)))) | ((with_reducible refine Below.setCell ?_ ?hsz _); (case hsz => (first | omega | (simp; done) | (simp; omega) | (simp at *; omega)))) | (with_reducible refine Below.drew ?_) | (with_reducible refine below_drewN ?_ _) | ((with_reducible refine Below.trans ?_ (Below.mono (by with_reducible assumption) ?hsz)); (case hsz => (first | omega | (simp; done) | (simp; omega) | (simp at *; omega))))))⟩
      · have Hn := Lib.hid (show (L.take (j + 1)).Nodup by rw [Ht.out, nodup_snoc]; exact ⟨Hall.out, hxy⟩)
        go_wp2_with fail
        all_goals
          refine (containsPre_any y g j c L _ Hc.out hgr (by omega) (by omega) (by omega) hc2').mono ?_
          rintro e w1 ⟨rfl, hb1⟩
          rw [decide_eq_false hxy]
          go_wp2
          go_roundw
          case rel => exact ⟨j + 1, by omega, by go_num, Hn.out, by (repeat (first | (with_reducible assumption) | (with_reducible exact Below.refl _ _) | ((with_reducible refine Below.alloc ?_ ?hsz _); (case hsz => (first | omega | (simp; done) | (simp; omega) | (simp at *; omega)))) | ((with_reducible refine Below.setCell ?_ ?hsz _); (case hsz => (first | omega | (simp; done) | (simp; omega) | (simp at *; omega)))) | (with_reducible refine Below.drew ?_) | (with_reducible refine below_drewN ?_ _) | ((with_reducible refine Below.trans ?_ (Below.mono (by with_reducible assumption) ?hsz)); (case hsz => (first | omega | (simp; done) | (simp; omega) | (simp at *; omega))))))⟩
          case measure => simp [intOf]; omega
    · have hjk : j = m := by omega
      subst hjk
      go_wp2
      go_ret
      exact ⟨ret_bool (decide_eq_true Hall.out).symm, hb⟩

set_option maxHeartbeats 2000000 in
set_option maxRecDepth 20000 in
theorem nodesFn_any (g n cap B q bp gp m c : Nat) (y : Int) (L : List Int) (w : World) (hR : Row w B g n cap L) (hq : q < m) (f : w.cell? ⟨gp, q * 5 + 1, none⟩ = some (.int .i64 y))
    (d0 : w.cell? ⟨bp, 0, none⟩ = some (.slice (some ⟨gp, 0, none⟩) m c)) (hB : B ≤ w.heap.size) (hn : n ≤ 6) :
    Calls Try.prog 91 #[.slice (some ⟨g, 0, none⟩) n cap, .int .i64 q, .pointer (some ⟨bp, 0, none⟩)] w fun e w' => ∃ g2 cap2 : Nat, e = .returned (.slice (some ⟨g2, 0, none⟩) (n + 1) cap2) ∧ Row w' B g2 (n + 1) cap2 (L ++ [y]) ∧ Below B w w' := by
  obtain ⟨i0, hi0, hz0, hz1, hz2⟩ := info_parts int_info
  obtain ⟨hg1, hg2⟩ := hR.lt
  have hR1 := hR.1
  have hrow : ∀ q', (Value.slice (some ⟨g, 0, none⟩) n cap).ownBlock = some q' → B ≤ q' := fun q' hq => (hR1.lt q' hq).1
  go_enter Try.func91, Try.ntmps91
  go_wp2_with (first
    | (at_builtin
       go_must (refine wpList_append_lies _ rfl _ _ 26 rfl B 3 i0 _ 1 8 Try.underlying26 hi0 hz0 hz1 hz2 rfl (by omega) (.slice (some ⟨g, 0, none⟩) n cap) n _ rfl (hR1.alloc _) ⟨w.heap.size, 0, none⟩ 1 1 [.int .i64 y] rfl rfl (World.news_of_block (cs := #[.int .i64 y]) (t := 3) (fr := (0, 0)) (heap_alloc_new _ _)) (by simp [Value.oneCell']) (by omega) (by unfold maxLen; omega) (by omega) (by simp; omega) _ rfl ?_)
       intro g2 k2 w7 hown7 hgr7 hat7 hlt7))
  go_ret
  refine ⟨g2, k2, rfl, ⟨by rw [List.map_append]; exact hown7, by unfold small; omega⟩, ?_⟩
  exact Below.grown (w := w.alloc (.cells #[.int .i64 y] 3)) (by (repeat (first | (with_reducible assumption) | (with_reducible exact Below.refl _ _) | ((with_reducible refine Below.alloc ?_ ?hsz _); (case hsz => (first | omega | (simp; done) | (simp; omega) | (simp at *; omega)))) | ((with_reducible refine Below.setCell ?_ ?hsz _); (case hsz => (first | omega | (simp; done) | (simp; omega) | (simp at *; omega)))) | (with_reducible refine Below.drew ?_) | (with_reducible refine below_drewN ?_ _) | ((with_reducible refine Below.trans ?_ (Below.mono (by with_reducible assumption) ?hsz)); (case hsz => (first | omega | (simp; done) | (simp; omega) | (simp at *; omega))))))) hgr7 (by (first | omega | (simp; done) | (simp; omega) | (simp at *; omega))) hrow

set_option maxHeartbeats 2000000 in
set_option maxRecDepth 20000 in
theorem foldNodes_any (bp gp gl cap b c : Nat) (f0 : Int) (u0 : Value) (xs : List Int) (ps : List Pp) (w0 w : World) (hb0 : Below w0.heap.size w0 w) (h0 : Reads w0 u0 xs) (hp : Pipes w0 b (.slice (some ⟨gp, 0, none⟩) ps.length c) ps) (hR : Row w w0.heap.size gl 1 cap [f0]) (hpl : placesB ps xs = true) (h5 : xs.length ≤ 5)
    (hbp : bp < w0.heap.size) (d0 : w0.cell? ⟨bp, 0, none⟩ = some (.slice (some ⟨gp, 0, none⟩) ps.length c)) :
    Calls Try.prog 90 #[u0, .slice (some ⟨gl, 0, none⟩) 1 cap, .func (Fn.func 91) #[] #[.pointer (some ⟨bp, 0, none⟩)]] w fun e w' => ∃ g2 cap2 : Nat, e = .returned (.slice (some ⟨g2, 0, none⟩) (xs.length + 1) cap2) ∧ Row w' w0.heap.size g2 (xs.length + 1) cap2 (f0 :: xs.map (toI ps)) ∧ Below w0.heap.size w0 w' := by
  obtain ⟨A, ca, rfl, hc1, hc2, hsm, hcell⟩ := h0.form
  unfold maxLen at hc2
  have HPL := Lib.hid hpl
  clear hpl
  go_enter Try.func90, Try.ntmps90
  go_wp2
  go_loopw [11, 1] (fun i t wr => ∃ k g n1 cap1 : Nat, k ≤ xs.length ∧ i = .int .i64 k ∧ n1 = k + 1 ∧ t = .slice (some ⟨g, 0, none⟩) n1 cap1 ∧ Row wr w0.heap.size g n1 cap1 (f0 :: (xs.take k).map (toI ps)) ∧ Below w0.heap.size w0 wr) (fun i _ _ => xs.length - (intOf i).toNat)
  case atStart => exact ⟨0, gl, 1, cap, by omega, rfl, rfl, rfl, hR, hb0⟩
  case round =>
    clear hR hb0
    obtain ⟨k, g, n1, cap1, hk, rfl, hn1, rfl, hR, hb⟩ := hrel
    have hzb := hb.size
    by_cases hlt : k < xs.length
    · obtain ⟨gx, ox, rfl, hg2, cx⟩ := hcell wr hb k hlt
      obtain ⟨q, hq, hql⟩ := place_at HPL.out hlt
      rw [hq] at cx
      obtain ⟨gp', hgp', -, gp2, -, f1, -, -, -⟩ := hp.cellAt hb q hql
      injection hgp' with hgp'
      injection hgp' with hgp'
      subst hgp'
      have e0 := (hb.cell (p := ⟨bp, 0, none⟩) hbp).trans d0
      have Hn := Lib.hid (show f0 :: (xs.take (k + 1)).map (toI ps) = (f0 :: (xs.take k).map (toI ps)) ++ [ps[q].to] by
        rw [List.take_succ_eq_append_getElem hlt, List.map_append, hq, ← toI_at hql]; rfl)
      clear hq
      subst hn1
      go_wp2_with fail
      with_reducible refine (nodesFn_any g (k + 1) cap1 w0.heap.size q bp gp ps.length c ps[q].to _ _ hR hql f1 e0 hzb (by omega)).mono ?_
      rintro e w2 ⟨g2, cap2, rfl, hR2, hb2⟩
      rw [← Hn.out] at hR2
      have hbw := hb.trans hb2
      clear hR hb hb2 e0 cx f1
      go_wp2
      go_roundw
      case rel => exact ⟨k + 1, g2, k + 1 + 1, cap2, by omega, by go_num, rfl, rfl, hR2, hbw⟩
      case measure => simp [intOf]; omega
    · have hk2 : k = xs.length := by omega
      subst hk2
      rw [List.take_length] at hR
      subst hn1
      go_wp2
      go_ret
      exact ⟨g, cap1, rfl, hR, hb⟩

set_option maxHeartbeats 2000000 in
set_option maxRecDepth 20000 in
theorem nodesAlong_any (v u : Value) (xs : List Int) (ps : List Pp) (b : Nat) (w : World) (hp : Pipes w b v ps) (hx : Reads w u xs) (hpl : placesB ps xs = true) (h1 : 1 ≤ xs.length) (h5 : xs.length ≤ 5) :
    Calls Try.prog 48 #[v, u] w fun e w' => ∃ g cap : Nat, e = .returned (.slice (some ⟨g, 0, none⟩) (xs.length + 1) cap) ∧ Row w' w.heap.size g (xs.length + 1) cap (nodesI ps xs) ∧ Below w.heap.size w w' := by
  have hp0 := hp
  have hx0 := hx
  obtain ⟨A, c, rfl, -, -, -, -⟩ := hp.form
  obtain ⟨A0, c0, rfl, hc1, hc2, hsm, hcell⟩ := hx.form
  unfold maxLen at hc2
  have h0 : 0 < xs.length := by omega
  obtain ⟨gx, ox, rfl, gx2, cx⟩ := hcell w (Below.refl _ _) 0 h0
  rw [Nat.add_zero] at cx
  obtain ⟨q, hq, hql⟩ := place_at hpl h0
  rw [hq] at cx
  obtain ⟨gp, rfl, gp1, gp2, f0, -, -, -, -⟩ := hp.cellAt (Below.refl _ _) q hql
  have Hf := Lib.hid (show nodesI ps xs = ps[q].fr :: xs.map (toI ps) by rw [nodesI, getD_at h0, hq, frI_at hql])
  have HPL := Lib.hid hpl
  clear hq hpl
  go_enter Try.func48, Try.ntmps48
  go_wp2_with fail
  go_region
  all_goals
    have hown := World.ownsRow_lit (e := 3) (base := (w.alloc (.cells #[.slice (some ⟨gp, 0, none⟩) ps.length c] 23)).heap.size) (size := 1) (w.alloc (.cells #[.slice (some ⟨gp, 0, none⟩) ps.length c] 23)) #[.int .i64 ps[q].fr] 1 (Nat.le_refl _) (by simp [maxLen]) rfl
    rw [World.size_alloc] at hown
    have hR : Row _ (w.heap.size + 1) (w.heap.size + 1) 1 1 [ps[q].fr] := ⟨own_keep hown (Nat.le_refl _) (Below.drew (Below.refl _ _)), by simp [small]⟩
    go_wp2_with fail
    refine (foldNodes_any w.heap.size gp (w.heap.size + 1) 1 b c ps[q].fr _ xs ps (w.alloc (.cells #[.slice (some ⟨gp, 0, none⟩) ps.length c] 23)) _ (by (repeat (first | (with_reducible assumption) | (with_reducible exact Below.refl _ _) | ((with_reducible refine Below.alloc ?_ ?hsz _); (case hsz => (first | omega | (simp; done) | (simp; omega) | (simp at *; omega)))) | ((with_reducible refine Below.setCell ?_ ?hsz _); (case hsz => (first | omega | (simp; done) | (simp; omega) | (simp at *; omega)))) | (with_reducible refine Below.drew ?_) | (with_reducible refine below_drewN ?_ _) | ((with_reducible refine Below.trans ?_ (Below.mono (by with_reducible assumption) ?hsz)); (case hsz => (first | omega | (simp; done) | (simp; omega) | (simp at *; omega))))))) (hx0.keep (by (repeat (first | (with_reducible assumption) | (with_reducible exact Below.refl _ _) | ((with_reducible refine Below.alloc ?_ ?hsz _); (case hsz => (first | omega | (simp; done) | (simp; omega) | (simp at *; omega)))) | ((with_reducible refine Below.setCell ?_ ?hsz _); (case hsz => (first | omega | (simp; done) | (simp; omega) | (simp at *; omega)))) | (with_reducible refine Below.drew ?_) | (with_reducible refine below_drewN ?_ _) | ((with_reducible refine Below.trans ?_ (Below.mono (by with_reducible assumption) ?hsz)); (case hsz => (first | omega | (simp; done) | (simp; omega) | (simp at *; omega)))))))) (hp0.keep (by (repeat (first | (with_reducible assumption) | (with_reducible exact Below.refl _ _) | ((with_reducible refine Below.alloc ?_ ?hsz _); (case hsz => (first | omega | (simp; done) | (simp; omega) | (simp at *; omega)))) | ((with_reducible refine Below.setCell ?_ ?hsz _); (case hsz => (first | omega | (simp; done) | (simp; omega) | (simp at *; omega)))) | (with_reducible refine Below.drew ?_) | (with_reducible refine below_drewN ?_ _) | ((with_reducible refine Below.trans ?_ (Below.mono (by with_reducible assumption) ?hsz)); (case hsz => (first | omega | (simp; done) | (simp; omega) | (simp at *; omega)))))))) (by rw [World.size_alloc]; exact hR) HPL.out h5 (by simp) (by simp)).mono ?_
    rintro e w2 ⟨g2, cap2, rfl, hR2, hb2⟩
    go_wp2
    go_ret
    refine ⟨g2, cap2, rfl, ?_, by (repeat (first | (with_reducible assumption) | (with_reducible exact Below.refl _ _) | ((with_reducible refine Below.alloc ?_ ?hsz _); (case hsz => (first | omega | (simp; done) | (simp; omega) | (simp at *; omega)))) | ((with_reducible refine Below.setCell ?_ ?hsz _); (case hsz => (first | omega | (simp; done) | (simp; omega) | (simp at *; omega)))) | (with_reducible refine Below.drew ?_) | (with_reducible refine below_drewN ?_ _) | ((with_reducible refine Below.trans ?_ (Below.mono (by with_reducible assumption) ?hsz)); (case hsz => (first | omega | (simp; done) | (simp; omega) | (simp at *; omega))))))⟩
    rw [Hf.out]
    exact hR2.mono (by simp)

end Go.Proofs.Ytlaeckjfjleplaa
