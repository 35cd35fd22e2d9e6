/- Contracts of the functions of chapter 7 in the program: a walk in the tree. -/
import Derived.Test.YtmeicnhlehdboaaJ4
import Derived.Test.YtmeicnhlehdboaaJ3
import Derived.Test.YtmeicnhlehdboaaV2
import Derived.Test.YtmeicnhlehdboaaUG
import Derived.Test.YtmeicnhlehdboaaU1
import Derived.WalkMore
namespace Go.Proofs.Ytmeicnhlehdboaa
open Go.RowKit

theorem own_front7 {w : World} {b e n m g cap : Nat} {xs : List Value} (h : w.ownsRow b e 1 (.slice (some ⟨g, 0, none⟩) n cap) n xs) (hm : m ≤ n) : w.ownsRow b e 1 (.slice (some ⟨g, 0, none⟩) m cap) m (xs.take m) := by
  obtain ⟨h1, h2⟩ := h
  rcases h2 with ⟨h, -⟩ | ⟨g', cap', cur, e1, h3, h4, h5, h6, h7, h8⟩
  · cases h
  · injection e1 with x1 x2 x3
    injection x1 with x1
    injection x1 with x1
    subst x1
    subst x3
    refine ⟨by rw [List.length_take, h1]; omega, .inr ⟨g, cap, cur, rfl, h3, h4, by omega, h6, h7, ?_⟩⟩
    rw [← h8, List.take_take, Nat.mul_one, Nat.min_eq_left (by omega)]

def sLen7 (v : Value) : Nat := match v with | .slice _ m _ => m | _ => 0

set_option maxHeartbeats 1000000 in
set_option maxRecDepth 20000 in
theorem indexInts7_any (x : Int) (u : Value) (xs : List Int) (b : Nat) (w : World) (hx : Ints w b u xs) :
    Calls Try.prog 66 #[u, .int .i64 x] w fun e w' => ∃ r : Int, e = .returned (.int .i64 r) ∧ decide (0 ≤ r) = decide (x ∈ xs) ∧ Below w.heap.size w w' := by
  obtain ⟨A, c, rfl, hc1, hc2, hsm, hcell⟩ := hx.form
  unfold maxLen at hc2
  go_enter Try.func66, Try.ntmps66
  go_wp2
  go_loopw [8] (fun i wr => ∃ j : Nat, j ≤ xs.length ∧ i = .int .i64 j ∧ x ∉ xs.take j ∧ Below w.heap.size w wr) (fun i _ => xs.length - (intOf i).toNat)
  case atStart => exact ⟨0, by omega, rfl, by simp, Below.refl _ _⟩
  case round =>
    obtain ⟨j, hj, rfl, hall, hb⟩ := hrel
    have Hall := Lib.hid hall
    clear hall
    have hzb := hb.size
    by_cases hlt : j < xs.length
    · obtain ⟨g, rfl, hg1, hg2, cx, -⟩ := hcell wr hb j hlt
      have Ht := Lib.hid (List.take_succ_eq_append_getElem hlt)
      have HM := Lib.hid (List.getElem_mem hlt)
      generalize xs[j] = y at *
      have hgr : g < wr.heap.size := by omega
      by_cases hxy : x = y
      · have hxb : (x == y) = true := by simpa using hxy
        have Hy := Lib.hid (show x ∈ xs by rw [hxy]; exact HM.out)
        clear hxy
        go_wp2
        go_ret
        exact ⟨_, rfl, by rw [decide_eq_true Hy.out]; simp, by (repeat (first | (with_reducible assumption) | (with_reducible exact Below.refl _ _) | ((with_reducible refine Below.alloc ?_ ?hsz _); (case hsz => (first | omega | (simp; done) | (simp; omega) | (simp at *; omega)))) | ((with_reducible refine Below.setCell ?_ ?hsz _); (case hsz => (first | omega | (simp; done) | (simp; omega) | (simp at *; omega)))) | (with_reducible refine Below.drew ?_) | (with_reducible refine below_drewN ?_ _) | ((with_reducible refine Below.trans ?_ (Below.mono (by with_reducible assumption) ?hsz)); (case hsz => (first | omega | (simp; done) | (simp; omega) | (simp at *; omega))))))⟩
      · have hxb : (x == y) = false := by simpa using hxy
        have Hn := Lib.hid (show x ∉ xs.take (j + 1) by
          rw [Ht.out, List.mem_append]
          rintro (h | h)
          · exact Hall.out h
          · simp at h; exact hxy h)
        clear hxy
        go_wp2
        go_roundw
        case rel => exact ⟨j + 1, by omega, by go_num, Hn.out, by (repeat (first | (with_reducible assumption) | (with_reducible exact Below.refl _ _) | ((with_reducible refine Below.alloc ?_ ?hsz _); (case hsz => (first | omega | (simp; done) | (simp; omega) | (simp at *; omega)))) | ((with_reducible refine Below.setCell ?_ ?hsz _); (case hsz => (first | omega | (simp; done) | (simp; omega) | (simp at *; omega)))) | (with_reducible refine Below.drew ?_) | (with_reducible refine below_drewN ?_ _) | ((with_reducible refine Below.trans ?_ (Below.mono (by with_reducible assumption) ?hsz)); (case hsz => (first | omega | (simp; done) | (simp; omega) | (simp at *; omega))))))⟩
        case measure => simp [intOf]; omega
    · have hjk : j = xs.length := by omega
      subst hjk
      rw [List.take_length] at Hall
      go_wp2
      go_ret
      exact ⟨_, rfl, by rw [decide_eq_false Hall.out]; rfl, hb⟩

set_option maxHeartbeats 1000000 in
set_option maxRecDepth 20000 in
theorem containsInts7_any (x : Int) (u : Value) (xs : List Int) (b : Nat) (w : World) (hx : Ints w b u xs) :
    Calls Try.prog 45 #[u, .int .i64 x] w fun e w' => e = .returned (.bool (decide (x ∈ xs))) ∧ Below w.heap.size w w' := by
  go_enter Try.func45, Try.ntmps45
  go_wp2_with fail
  refine (indexInts7_any x u xs b _ hx).mono ?_
  rintro e w1 ⟨r, rfl, hr, hb1⟩
  have Hr := Lib.hid hr
  clear hr
  go_wp2
  go_ret
  exact ⟨by first | exact ret_bool Hr.out | rfl, by (repeat (first | (with_reducible assumption) | (with_reducible exact Below.refl _ _) | ((with_reducible refine Below.alloc ?_ ?hsz _); (case hsz => (first | omega | (simp; done) | (simp; omega) | (simp at *; omega)))) | ((with_reducible refine Below.setCell ?_ ?hsz _); (case hsz => (first | omega | (simp; done) | (simp; omega) | (simp at *; omega)))) | (with_reducible refine Below.drew ?_) | (with_reducible refine below_drewN ?_ _) | ((with_reducible refine Below.trans ?_ (Below.mono (by with_reducible assumption) ?hsz)); (case hsz => (first | omega | (simp; done) | (simp; omega) | (simp at *; omega))))))⟩

set_option maxHeartbeats 1000000 in
set_option maxRecDepth 20000 in
theorem treeFn_any (s bl N : Nat) (u : Value) (ps : List Pp) (b : Nat) (w : World) (hx : Ints w b u (treeL N ps)) (h7 : ps.length ≤ 7) (hs : s < 2 * ps.length) (d0 : w.cell? ⟨bl, 0, none⟩ = some u) :
    Calls Try.prog 67 #[.int .i64 (s : Int), .pointer (some ⟨bl, 0, none⟩)] w fun e w' => e = .returned (.bool (tstepF N ps s)) ∧ Below w.heap.size w w' := by
  have HQ := Lib.hid (show (s : Int) / 2 = ((s / 2 : Nat) : Int) by omega)
  have HT := Lib.hid (show decide ((s : Int) / 2 ∈ treeL N ps) = treeF N ps (s / 2) by rw [HQ.out]; exact tree_in (by omega))
  have hs14 : s ≤ 1000 := by omega
  clear hs
  go_enter Try.func67, Try.ntmps67
  go_wp2_with fail
  refine (containsInts7_any ((s : Int) / 2) u (treeL N ps) b _ (hx.keep (by (repeat (first | (with_reducible assumption) | (with_reducible exact Below.refl _ _) | ((with_reducible refine Below.alloc ?_ ?hsz _); (case hsz => (first | omega | (simp; done) | (simp; omega) | (simp at *; omega)))) | ((with_reducible refine Below.setCell ?_ ?hsz _); (case hsz => (first | omega | (simp; done) | (simp; omega) | (simp at *; omega)))) | (with_reducible refine Below.drew ?_) | (with_reducible refine below_drewN ?_ _) | ((with_reducible refine Below.trans ?_ (Below.mono (by with_reducible assumption) ?hsz)); (case hsz => (first | omega | (simp; done) | (simp; omega) | (simp at *; omega))))))))).mono ?_
  rintro e w1 ⟨rfl, hb1⟩
  go_wp2
  go_ret
  exact ⟨ret_bool (by rw [HT.out]; rfl), by (repeat (first | (with_reducible assumption) | (with_reducible exact Below.refl _ _) | ((with_reducible refine Below.alloc ?_ ?hsz _); (case hsz => (first | omega | (simp; done) | (simp; omega) | (simp at *; omega)))) | ((with_reducible refine Below.setCell ?_ ?hsz _); (case hsz => (first | omega | (simp; done) | (simp; omega) | (simp at *; omega)))) | (with_reducible refine Below.drew ?_) | (with_reducible refine below_drewN ?_ _) | ((with_reducible refine Below.trans ?_ (Below.mono (by with_reducible assumption) ?hsz)); (case hsz => (first | omega | (simp; done) | (simp; omega) | (simp at *; omega))))))⟩

set_option maxHeartbeats 1000000 in
set_option maxRecDepth 20000 in
theorem treeWhere_any (M N bl : Nat) (u : Value) (ps : List Pp) (b : Nat) (w : World) (hx : Ints w b u (treeL N ps)) (h7 : ps.length ≤ 7) (hM : M = 2 * ps.length) (hbl : bl < w.heap.size) (d0 : w.cell? ⟨bl, 0, none⟩ = some u) :
    Calls Try.prog 48 #[.int .i64 (M : Int), .func (Fn.func 67) #[] #[.pointer (some ⟨bl, 0, none⟩)]] w fun e w' => ∃ r, e = .returned r ∧ Ints w' w.heap.size r (numW M (tstepF N ps)) ∧ Below w.heap.size w w' := by
  obtain ⟨cnt, hcn⟩ : ∃ cnt, cnt = M := ⟨_, rfl⟩
  rw [← hcn]
  have hcnt : cnt ≤ 1000 := by omega
  have HL := Lib.hid (hcn.trans hM)
  clear hM hcn
  go_enter Try.func48, Try.ntmps48
  go_wp2
  obtain ⟨i0, hi0, hz0, hz1, hz2⟩ := info_parts int_info
  go_loopw [8, 5] (fun i t wr => ∃ (k j k1 : Nat) (A1 : Option Addr), k ≤ cnt ∧ i = .int .i64 k ∧ t = .slice A1 j k1 ∧ (numW k (tstepF N ps)).length = j ∧
      wr.ownsRow w.heap.size 3 1 (.slice A1 j k1) j ((numW k (tstepF N ps)).map (Value.int .i64)) ∧ Below w.heap.size w wr) (fun i _ _ => cnt - (intOf i).toNat)
  case atStart => exact ⟨0, 0, 0, none, by omega, rfl, rfl, rfl, World.ownsRow_nil _ _ _ 1, Below.refl _ _⟩
  case round =>
    obtain ⟨k, j, k1, A1, hk, rfl, rfl, hj, hown, hb⟩ := hrel
    have hjk : j ≤ k := by rw [← hj]; exact numW_len k _
    have HJ := Lib.hid hj
    clear hj
    obtain ⟨hcr, hfr, hzr⟩ := bcell hb
    by_cases hlt : k < cnt
    · by_cases hf : (tstepF N ps) k = true
      · have Hf := Lib.hid (numW_yes hf)
        go_wp2_with fail
        refine (treeFn_any k bl N u ps b _ (hx.keep (by (repeat (first | (with_reducible assumption) | (with_reducible exact Below.refl _ _) | ((with_reducible refine Below.alloc ?_ ?hsz _); (case hsz => (first | omega | (simp; done) | (simp; omega) | (simp at *; omega)))) | ((with_reducible refine Below.setCell ?_ ?hsz _); (case hsz => (first | omega | (simp; done) | (simp; omega) | (simp at *; omega)))) | (with_reducible refine Below.drew ?_) | (with_reducible refine below_drewN ?_ _) | ((with_reducible refine Below.trans ?_ (Below.mono (by with_reducible assumption) ?hsz)); (case hsz => (first | omega | (simp; done) | (simp; omega) | (simp at *; omega)))))))) h7 (by rw [← HL.out]; exact hlt) (by (repeat (first | (with_reducible assumption) | ((with_reducible refine (Below.cell (by with_reducible assumption) ?hsz).trans ?_); (case hsz => (first | omega | (simp; done) | (simp; omega) | (simp at *; omega)))) | ((with_reducible refine (World.cell?_alloc_lt _ _ _ ?hsz).trans ?_); (case hsz => (first | omega | (simp; done) | (simp; omega) | (simp at *; omega)))) | ((with_reducible refine (World.cell?_setCell_other _ _ _ _ ?hsz).trans ?_); (case hsz => (intro h; injection h with h1 h2; omega))))))).mono ?_
        rintro e w2 ⟨rfl, hb2⟩
        have hown2 := own_keep hown (Nat.le_refl _) hb2
        have hz2' := hb2.size
        have hbw2 : Below w.heap.size w w2 := by (repeat (first | (with_reducible assumption) | (with_reducible exact Below.refl _ _) | ((with_reducible refine Below.alloc ?_ ?hsz _); (case hsz => (first | omega | (simp; done) | (simp; omega) | (simp at *; omega)))) | ((with_reducible refine Below.setCell ?_ ?hsz _); (case hsz => (first | omega | (simp; done) | (simp; omega) | (simp at *; omega)))) | (with_reducible refine Below.drew ?_) | (with_reducible refine below_drewN ?_ _) | ((with_reducible refine Below.trans ?_ (Below.mono (by with_reducible assumption) ?hsz)); (case hsz => (first | omega | (simp; done) | (simp; omega) | (simp at *; omega))))))
        have hrow : ∀ q, (Value.slice A1 j k1).ownBlock = some q → w.heap.size ≤ q := fun q hq => (hown.lt q hq).1
        clear hown hcr hfr hb hb2
        go_wp2_with (first
          | (at_builtin
             go_must (refine wpList_append_lies _ rfl _ _ 27 rfl w.heap.size 3 i0 _ 1 8 Try.underlying27 hi0 hz0 hz1 hz2 rfl (by omega) _ j _ rfl (hown2.alloc _) ⟨w2.heap.size, 0, none⟩ 1 1 [.int .i64 k] rfl rfl (World.news_of_block (cs := #[.int .i64 k]) (t := 3) (fr := (0, 0)) (heap_alloc_new _ _)) (by simp [Value.oneCell']) (by omega) (by unfold maxLen; omega) (by omega) (by simp; omega) _ rfl ?_)
             intro g2 k2 w7 hown7 hgr7 hat7 hlt7))
        have hb7 : Below w.heap.size w w7 := by
          refine Below.grown (w := w2.alloc (.cells #[.int .i64 k] 3)) (by (repeat (first | (with_reducible assumption) | (with_reducible exact Below.refl _ _) | ((with_reducible refine Below.alloc ?_ ?hsz _); (case hsz => (first | omega | (simp; done) | (simp; omega) | (simp at *; omega)))) | ((with_reducible refine Below.setCell ?_ ?hsz _); (case hsz => (first | omega | (simp; done) | (simp; omega) | (simp at *; omega)))) | (with_reducible refine Below.drew ?_) | (with_reducible refine below_drewN ?_ _) | ((with_reducible refine Below.trans ?_ (Below.mono (by with_reducible assumption) ?hsz)); (case hsz => (first | omega | (simp; done) | (simp; omega) | (simp at *; omega))))))) hgr7 (by (first | omega | (simp; done) | (simp; omega) | (simp at *; omega))) hrow
        have hown8 : w7.ownsRow w.heap.size 3 1 (.slice (some ⟨g2, 0, none⟩) (j + 1) k2) (j + 1) ((numW (k + 1) (tstepF N ps)).map (Value.int .i64)) := by
          rw [Hf.out, List.map_append]
          simpa using hown7
        have hj8 : (numW (k + 1) (tstepF N ps)).length = j + 1 := by rw [Hf.out, List.length_append, HJ.out]; rfl
        clear hown7 hgr7 hat7 hlt7
        go_roundw
        case rel => exact ⟨k + 1, j + 1, k2, some ⟨g2, 0, none⟩, by omega, by go_num, rfl, hj8, hown8, hb7⟩
        case measure => simp [intOf]; omega
      · have hf' : (tstepF N ps) k = false := by simpa using hf
        have Hf := Lib.hid (numW_no hf')
        clear hf
        go_wp2_with fail
        refine (treeFn_any k bl N u ps b _ (hx.keep (by (repeat (first | (with_reducible assumption) | (with_reducible exact Below.refl _ _) | ((with_reducible refine Below.alloc ?_ ?hsz _); (case hsz => (first | omega | (simp; done) | (simp; omega) | (simp at *; omega)))) | ((with_reducible refine Below.setCell ?_ ?hsz _); (case hsz => (first | omega | (simp; done) | (simp; omega) | (simp at *; omega)))) | (with_reducible refine Below.drew ?_) | (with_reducible refine below_drewN ?_ _) | ((with_reducible refine Below.trans ?_ (Below.mono (by with_reducible assumption) ?hsz)); (case hsz => (first | omega | (simp; done) | (simp; omega) | (simp at *; omega)))))))) h7 (by rw [← HL.out]; exact hlt) (by (repeat (first | (with_reducible assumption) | ((with_reducible refine (Below.cell (by with_reducible assumption) ?hsz).trans ?_); (case hsz => (first | omega | (simp; done) | (simp; omega) | (simp at *; omega)))) | ((with_reducible refine (World.cell?_alloc_lt _ _ _ ?hsz).trans ?_); (case hsz => (first | omega | (simp; done) | (simp; omega) | (simp at *; omega)))) | ((with_reducible refine (World.cell?_setCell_other _ _ _ _ ?hsz).trans ?_); (case hsz => (intro h; injection h with h1 h2; omega))))))).mono ?_
        rintro e w2 ⟨rfl, hb2⟩
        have hown2 := own_keep hown (Nat.le_refl _) hb2
        have hbw2 : Below w.heap.size w w2 := by (repeat (first | (with_reducible assumption) | (with_reducible exact Below.refl _ _) | ((with_reducible refine Below.alloc ?_ ?hsz _); (case hsz => (first | omega | (simp; done) | (simp; omega) | (simp at *; omega)))) | ((with_reducible refine Below.setCell ?_ ?hsz _); (case hsz => (first | omega | (simp; done) | (simp; omega) | (simp at *; omega)))) | (with_reducible refine Below.drew ?_) | (with_reducible refine below_drewN ?_ _) | ((with_reducible refine Below.trans ?_ (Below.mono (by with_reducible assumption) ?hsz)); (case hsz => (first | omega | (simp; done) | (simp; omega) | (simp at *; omega))))))
        clear hown hcr hfr hb hb2
        go_wp2
        go_roundw
        case rel => exact ⟨k + 1, j, k1, A1, by omega, by go_num, rfl, by rw [Hf.out]; exact HJ.out, by rw [Hf.out]; exact hown2, hbw2⟩
        case measure => simp [intOf]; omega
    · go_wp2
      go_ret
      have hk2 : k = cnt := by omega
      subst hk2
      exact ⟨_, rfl, ⟨by rw [HJ.out]; exact hown, by rw [HJ.out]; unfold small; omega⟩, hb⟩

set_option maxHeartbeats 4000000 in
set_option maxRecDepth 20000 in
theorem treeWalk_any (N a t : Nat) (v u : Value) (ps : List Pp) (b b' : Nat) (w : World) (hp : Pipes w b v ps) (hx : Ints w b' u (treeL N ps)) (hok : netOkB (N : Int) ps = true) (ha : a < N) (ht : t < N) (hj : lab (growL N ps ps.length) (a : Int) = lab (growL N ps ps.length) (t : Int)) :
    Calls Try.prog 46 #[v, u, .int .i64 (a : Int), .int .i64 (t : Int)] w fun e w' => ∃ r l, e = .returned r ∧ Ints w' w.heap.size r (ofS l) ∧ chain ps (a : Int) (t : Int) l ∧ (∀ s ∈ l, s < 2 * ps.length ∧ treeF N ps (s / 2) = true) ∧ l.length ≤ 5 ∧ Below w.heap.size w w' := by
  have hp0 := hp
  have hx0 := hx
  obtain ⟨A, c, rfl, hcp1, hcp2, -, -⟩ := hp.form
  unfold maxLen at hcp2
  obtain ⟨A', c', rfl, -, -, -, -⟩ := hx.form
  obtain ⟨TL, hTL⟩ : ∃ TL, (treeL N ps).length = TL := ⟨_, rfl⟩
  rw [hTL] at hx0 ⊢
  clear hTL hx
  obtain ⟨n2, n5, hl7, -⟩ := netOk_parts hok
  have hN5 : N ≤ 5 := by omega
  have HE := Lib.hid (And.intro (show ∀ p ∈ ps, endsIn (N : Int) p from net_endsIn hok) (And.intro hj (And.intro hok (fun (s : Nat) (hs : s < 2 * ps.length) => st_ends hok hs))))
  have hst := walkT_start (n := N) (ps := ps) (a := (a : Int)) (c := (t : Int)) (by omega) (by omega)
  have HST := Lib.hid hst
  obtain ⟨i0, hi0', hz0, hz1', hz2'⟩ := info_parts int_info
  have h2m : (2 : Int) * (ps.length : Int) = ((2 * ps.length : Nat) : Int) := by omega
  have H2 := Lib.hid h2m
  clear hj hok n2 n5 hst h2m
  go_enter Try.func46, Try.ntmps46
  go_wp2
  go_step3
  go_wp2_with fail
  rw [H2.out]
  refine (treeWhere_any (2 * ps.length) N w.heap.size _ ps b' _ (hx0.keep (by (repeat (first | (with_reducible assumption) | (with_reducible exact Below.refl _ _) | ((with_reducible refine Below.alloc ?_ ?hsz _); (case hsz => (first | omega | (simp; done) | (simp; omega) | (simp at *; omega)))) | ((with_reducible refine Below.setCell ?_ ?hsz _); (case hsz => (first | omega | (simp; done) | (simp; omega) | (simp at *; omega)))) | (with_reducible refine Below.drew ?_) | (with_reducible refine below_drewN ?_ _) | ((with_reducible refine Below.trans ?_ (Below.mono (by with_reducible assumption) ?hsz)); (case hsz => (first | omega | (simp; done) | (simp; omega) | (simp at *; omega)))))))) hl7 rfl (by simp) (by simp)).mono ?_
  rintro e w1 ⟨r1, rfl, hr1, hb1⟩
  have hB1 : Below w.heap.size w w1 := by (repeat (first | (with_reducible assumption) | (with_reducible exact Below.refl _ _) | ((with_reducible refine Below.alloc ?_ ?hsz _); (case hsz => (first | omega | (simp; done) | (simp; omega) | (simp at *; omega)))) | ((with_reducible refine Below.setCell ?_ ?hsz _); (case hsz => (first | omega | (simp; done) | (simp; omega) | (simp at *; omega)))) | (with_reducible refine Below.drew ?_) | (with_reducible refine below_drewN ?_ _) | ((with_reducible refine Below.trans ?_ (Below.mono (by with_reducible assumption) ?hsz)); (case hsz => (first | omega | (simp; done) | (simp; omega) | (simp at *; omega))))))
  have hz1 := hB1.size
  obtain ⟨A1, c1, rfl, hc11, hc12, hsm1, -⟩ := hr1.form
  unfold maxLen at hc12
  obtain ⟨S, hS⟩ : ∃ S, (numW (2 * ps.length) (tstepF N ps)).length = S := ⟨_, rfl⟩
  rw [hS] at hr1 hc11 hsm1 ⊢
  have HS := Lib.hid hS
  have hS14 : S ≤ 14 := by rw [← hS]; have := numW_len (2 * ps.length) (tstepF N ps); omega
  clear hS hb1
  have hRt : Row (w1.alloc (.cells #[.int .i64 (a : Int)] 3)) w1.heap.size w1.heap.size 1 1 [(a : Int)] :=
    ⟨World.ownsRow_lit (e := 3) (base := w1.heap.size) (size := 1) w1 #[.int .i64 (a : Int)] 1 (Nat.le_refl _) (by simp [maxLen]) rfl, by simp [small]⟩
  go_wp2
  go_step3
  go_wp2
  go_loopw [10, 11, 12] (fun t10 t11 t12 wr => ∃ (x : Nat) (walk : List Nat) (tried : List Int) (W T g k cw : Nat) (Aw : Option Addr), walk.length = W ∧ tried.length = T ∧ T ≤ 5 ∧ W + 1 ≤ T ∧ t10 = .int .i64 (x : Int) ∧ t11 = .slice (some ⟨g, 0, none⟩) T k ∧ t12 = .slice Aw W cw ∧
      walkT N ps (a : Int) (t : Int) (x : Int) walk tried ∧ wr.ownsRow w1.heap.size 3 1 (.slice Aw W cw) W ((ofS walk).map (Value.int .i64)) ∧ (Value.slice Aw W cw).ownBlock ≠ some g ∧ Row wr w1.heap.size g T k tried ∧ Below w1.heap.size w1 wr)
      (fun _ t11 t12 _ => 2 * (5 - sLen7 t11) + sLen7 t12)
  case atStart => exact ⟨a, [], [(a : Int)], 0, 1, w1.heap.size, 1, 0, none, rfl, rfl, by omega, by omega, rfl, rfl, rfl, HST.out, World.ownsRow_nil _ _ _ 1, by simp [Value.ownBlock], hRt, by (repeat (first | (with_reducible assumption) | (with_reducible exact Below.refl _ _) | ((with_reducible refine Below.alloc ?_ ?hsz _); (case hsz => (first | omega | (simp; done) | (simp; omega) | (simp at *; omega)))) | ((with_reducible refine Below.setCell ?_ ?hsz _); (case hsz => (first | omega | (simp; done) | (simp; omega) | (simp at *; omega)))) | (with_reducible refine Below.drew ?_) | (with_reducible refine below_drewN ?_ _) | ((with_reducible refine Below.trans ?_ (Below.mono (by with_reducible assumption) ?hsz)); (case hsz => (first | omega | (simp; done) | (simp; omega) | (simp at *; omega))))))⟩
  case round =>
    clear hRt HST
    obtain ⟨x, walk, tried, W, T, g, k, cw, Aw, hW, hT, hT5, hWT, rfl, rfl, rfl, hst, hown, hoff, hR, hB⟩ := hrel
    have hzb := hB.size
    have Hst := Lib.hid (And.intro hst (And.intro hW hT))
    clear hst hW hT
    by_cases hxt : x = t
    · have hxb : ((x : Int) != (t : Int)) = false := by simp [hxt]
      have Hf : Hid (chain ps (a : Int) (t : Int) walk ∧ (∀ s ∈ walk, s < 2 * ps.length ∧ treeF N ps (s / 2) = true) ∧ walk.length = W) := Lib.hid ⟨by rw [← hxt]; exact Hst.out.1.1, fun s hs => ⟨(Hst.out.1.2.1 s hs).1, (Hst.out.1.2.1 s hs).2.1⟩, Hst.out.2.1⟩
      clear hxt
      go_wp2
      try rw [Exit.noGoto_ret]
      go_ret
      exact ⟨_, walk, rfl, (show Ints _ w1.heap.size _ _ from ⟨by rw [List.length_map, Hf.out.2.2]; exact hown, by rw [List.length_map, Hf.out.2.2]; unfold small; omega⟩).mono hz1, Hf.out.1, Hf.out.2.1, by rw [Hf.out.2.2]; omega, hB1.trans (hB.mono hz1)⟩
    · have hxb : ((x : Int) != (t : Int)) = true := by simp; omega
      have HX := Lib.hid (show (x : Int) ≠ (t : Int) by omega)
      obtain ⟨SN, hSN⟩ : ∃ SN, SN = (List.range (2 * ps.length)).filter (tstepF N ps) := ⟨_, rfl⟩
      have HSN : Hid (numW (2 * ps.length) (tstepF N ps) = ofS SN ∧ SN.length = S ∧ (∀ s ∈ SN, s < 2 * ps.length ∧ tstepF N ps s = true) ∧ (∀ s, s < 2 * ps.length → tstepF N ps s = true → s ∈ SN)) := Lib.hid (by
        subst hSN
        refine ⟨rfl, by rw [← HS.out]; simp [numW], fun s hs => ?_, fun s h1 h2 => ?_⟩
        · rw [List.mem_filter, List.mem_range] at hs; exact hs
        · rw [List.mem_filter, List.mem_range]; exact ⟨h1, h2⟩)
      clear hxt hSN
      go_wp2
      generalize wr = wo at *
      clear hzb
      go_loopw [31, 10, 11, 12] (fun i u10 u11 u12 wr => ∃ j : Nat, j ≤ S ∧ i = .int .i64 (j : Int) ∧ u10 = .int .i64 (x : Int) ∧ u11 = .slice (some ⟨g, 0, none⟩) T k ∧ u12 = .slice Aw W cw ∧ (∀ s ∈ SN.take j, ¬(stFr ps s = (x : Int) ∧ stTo ps s ∉ tried)) ∧ wr.ownsRow w1.heap.size 3 1 (.slice Aw W cw) W ((ofS walk).map (Value.int .i64)) ∧ Row wr w1.heap.size g T k tried ∧ Below w1.heap.size w1 wr) (fun i _ _ _ _ => S - (intOf i).toNat)
      case atStart => exact ⟨0, by omega, rfl, rfl, rfl, rfl, by simp, hown, hR, hB⟩
      case round =>
        clear hown hR hB
        obtain ⟨j, hj, rfl, rfl, rfl, rfl, hno, hown, hR, hB⟩ := hrel
        have hzb := hB.size
        have HNO := Lib.hid hno
        clear hno
        by_cases hlt : j < S
        · have hjS : j < SN.length := by rw [HSN.out.2.1]; exact hlt
          obtain ⟨gs, hgs, -, hgs2, cs, -⟩ := (hr1.cellAt hB j (by rw [HSN.out.1, List.length_map]; exact hjS))
          subst hgs
          have cs' : wr.cell? ⟨gs, j, none⟩ = some (.int .i64 ((SN[j] : Nat) : Int)) := by
            rw [cs]
            congr 2
            have : (numW (2 * ps.length) (tstepF N ps))[j]? = (ofS SN)[j]? := by rw [HSN.out.1]
            rw [List.getElem?_eq_getElem (by rw [HSN.out.1, List.length_map]; exact hjS), List.getElem?_eq_getElem (by simpa using hjS)] at this
            injection this with this
            rw [this]
            simp
          obtain ⟨s1, s2⟩ := HSN.out.2.2.1 SN[j] (List.getElem_mem hjS)
          obtain ⟨-, ⟨e0, e1⟩, -⟩ := HE.out.2.2.2 _ s1
          have HTK := Lib.hid (show ∀ (P : Nat → Prop), (∀ s ∈ SN.take j, P s) → P SN[j] → ∀ s ∈ SN.take (j + 1), P s from fun P h1 h2 s hs => by
            rw [List.take_succ_eq_append_getElem hjS, List.mem_append] at hs
            rcases hs with h | h
            · exact h1 s h
            · simp at h; subst h; exact h2)
          generalize SN[j] = s at *
          obtain ⟨e, he⟩ : ∃ e : Nat, stTo ps s = (e : Int) := ⟨(stTo ps s).toNat, by omega⟩
          obtain ⟨f, hf⟩ : ∃ f, stFr ps s = f := ⟨_, rfl⟩
          rw [he] at e0 e1
          have Hs := Lib.hid (And.intro s2 (And.intro he (And.intro hf e1)))
          have hgsr : gs < wr.heap.size := by omega
          clear cs s2 he hf e0 e1
          go_wp2_with fail
          with_reducible refine (stepEnds_any s _ ps b _ (hp0.keep (hB1.trans (hB.mono hz1))) s1 hl7).mono ?_
          rintro ee w3 ⟨rfl, hb3⟩
          rw [Hs.out.2.1, Hs.out.2.2.1]
          have hB3 : Below w1.heap.size w1 w3 := hB.trans (hb3.mono hzb)
          have hown3 := own_keep hown (Nat.le_refl _) hb3
          have hR3 := hR.keep hb3
          have hz3 := hB3.size
          clear hown hR cs' hb3 hzb hgsr hB
          by_cases hfx : f = (x : Int)
          · have hfb : (f == (x : Int)) = true := by simp [hfx]
            have Hfx := Lib.hid hfx
            clear hfx
            go_wp2_with fail
            refine (containsInts7_any (e : Int) _ tried w1.heap.size _ hR3.ints).mono ?_
            rintro ee w4 ⟨rfl, hb4⟩
            have hB4 : Below w1.heap.size w1 w4 := hB3.trans (hb4.mono hz3)
            have hown4 := own_keep hown3 (Nat.le_refl _) hb4
            have hR4 := hR3.keep hb4
            have hz4 := hB4.size
            clear hown3 hR3 hb4 hz3 hB3
            by_cases hin : (e : Int) ∈ tried
            · rw [decide_eq_true hin]
              have Hn := Lib.hid (HTK.out _ HNO.out (show ¬(stFr ps s = (x : Int) ∧ stTo ps s ∉ tried) from fun h => h.2 (by rw [Hs.out.2.1]; exact hin)))
              clear hin
              go_wp2
              go_roundw
              case rel => exact ⟨j + 1, by omega, by go_num, rfl, rfl, rfl, Hn.out, hown4, hR4, hB4⟩
              case measure => simp [intOf]; omega
            · rw [decide_eq_false hin]
              have HP := Lib.hid (walkT_push Hst.out.1 s1 Hs.out.1 (by rw [Hs.out.2.2.1, Hfx.out]) (by rw [Hs.out.2.1]; exact hin) (by rw [Hs.out.2.1]; exact ⟨by omega, by have := Hs.out.2.2.2; omega⟩) HX.out)
              have HT := Lib.hid (walkT_len HP.out)
              have hT4 : T + 1 ≤ 5 := by
                have h1 := HT.out.1
                rw [List.length_append, Hst.out.2.2] at h1
                simp at h1; omega
              have hrow : ∀ q', (Value.slice Aw W cw).ownBlock = some q' → w1.heap.size ≤ q' := fun q' hq => (hown4.lt q' hq).1
              have hgk := hR4.lt
              have hkc := hR4.capd
              unfold maxLen at hkc
              clear hin
              go_wp2_with (first
                | (at_builtin
                   (refine wpList_append_lies _ rfl _ _ 27 rfl w1.heap.size 3 i0 _ 1 8 Try.underlying27 hi0' hz0 hz1' hz2' rfl (by omega) (.slice Aw W cw) W _ rfl (hown4.alloc _) ⟨w4.heap.size, 0, none⟩ 1 1 [.int .i64 (s : Int)] rfl rfl (World.news_of_block (cs := #[.int .i64 (s : Int)]) (t := 3) (fr := (0, 0)) (heap_alloc_new _ _)) (by simp [Value.oneCell']) (by omega) (by unfold maxLen; omega) (by omega) (by simp; omega) _ rfl ?_)
                   intro g3 k3 w7 hown7 hgr7 hat7 hlt7
                   go_must (
                       have hB7 : Below w1.heap.size w1 w7 := hB4.trans (Below.grown (w := w4.alloc (.cells #[.int .i64 (s : Int)] 3)) (by (repeat (first | (with_reducible assumption) | (with_reducible exact Below.refl _ _) | ((with_reducible refine Below.alloc ?_ ?hsz _); (case hsz => (first | omega | (simp; done) | (simp; omega) | (simp at *; omega)))) | ((with_reducible refine Below.setCell ?_ ?hsz _); (case hsz => (first | omega | (simp; done) | (simp; omega) | (simp at *; omega)))) | (with_reducible refine Below.drew ?_) | (with_reducible refine below_drewN ?_ _) | ((with_reducible refine Below.trans ?_ (Below.mono (by with_reducible assumption) ?hsz)); (case hsz => (first | omega | (simp; done) | (simp; omega) | (simp at *; omega))))))) hgr7 (by (first | omega | (simp; done) | (simp; omega) | (simp at *; omega))) hrow)
                       have hR7 := (hR4.keep (w' := w4.alloc (.cells #[.int .i64 (s : Int)] 3)) (by (repeat (first | (with_reducible assumption) | (with_reducible exact Below.refl _ _) | ((with_reducible refine Below.alloc ?_ ?hsz _); (case hsz => (first | omega | (simp; done) | (simp; omega) | (simp at *; omega)))) | ((with_reducible refine Below.setCell ?_ ?hsz _); (case hsz => (first | omega | (simp; done) | (simp; omega) | (simp at *; omega)))) | (with_reducible refine Below.drew ?_) | (with_reducible refine below_drewN ?_ _) | ((with_reducible refine Below.trans ?_ (Below.mono (by with_reducible assumption) ?hsz)); (case hsz => (first | omega | (simp; done) | (simp; omega) | (simp at *; omega)))))))).grown hgr7 hoff
                       have hg3 : g3 ≠ g := by
                         intro h
                         subst h
                         rcases hat7 with h | h
                         · exact hoff h
                         · simp at h; omega
                       have hz7 := hB7.size
                       have hgk7 := hR7.lt
                       have hown7' : w7.ownsRow w1.heap.size 3 1 (.slice (some ⟨g3, 0, none⟩) (W + 1) k3) (W + 1) ((ofS (walk ++ [s])).map (Value.int .i64)) := by
                         rw [ofS, List.map_append, List.map_append]; exact hown7
                       clear hown7 hgr7 hat7 hR4 hown4 hrow hgk
                       have hR7o := hR7.1
                       have hrow : ∀ q', (Value.slice (some ⟨g, 0, none⟩) T k).ownBlock = some q' → w1.heap.size ≤ q' := fun q' hq => (hR7o.lt q' hq).1))
                | (at_builtin
                   go_must (refine wpList_append_lies _ rfl _ _ 27 rfl w1.heap.size 3 i0 _ 1 8 Try.underlying27 hi0' hz0 hz1' hz2' rfl (by omega) (.slice (some ⟨g, 0, none⟩) T k) T _ rfl (hR7o.alloc _) ⟨w7.heap.size, 0, none⟩ 1 1 [.int .i64 (e : Int)] rfl rfl (World.news_of_block (cs := #[.int .i64 (e : Int)]) (t := 3) (fr := (0, 0)) (heap_alloc_new _ _)) (by simp [Value.oneCell']) (by omega) (by unfold maxLen; omega) (by omega) (by simp; omega) _ rfl ?_)
                   intro g4 k4 w8 hown8 hgr8 hat8 hlt8))
              have hB8 : Below w1.heap.size w1 w8 := hB7.trans (Below.grown (w := w7.alloc (.cells #[.int .i64 (e : Int)] 3)) (by (repeat (first | (with_reducible assumption) | (with_reducible exact Below.refl _ _) | ((with_reducible refine Below.alloc ?_ ?hsz _); (case hsz => (first | omega | (simp; done) | (simp; omega) | (simp at *; omega)))) | ((with_reducible refine Below.setCell ?_ ?hsz _); (case hsz => (first | omega | (simp; done) | (simp; omega) | (simp at *; omega)))) | (with_reducible refine Below.drew ?_) | (with_reducible refine below_drewN ?_ _) | ((with_reducible refine Below.trans ?_ (Below.mono (by with_reducible assumption) ?hsz)); (case hsz => (first | omega | (simp; done) | (simp; omega) | (simp at *; omega))))))) hgr8 (by (first | omega | (simp; done) | (simp; omega) | (simp at *; omega))) hrow)
              have hownw : w8.ownsRow w1.heap.size 3 1 (.slice (some ⟨g3, 0, none⟩) (W + 1) k3) (W + 1) ((ofS (walk ++ [s])).map (Value.int .i64)) :=
                (hown7'.alloc _).kept hgr8 (.inr fun h => hg3 (by injection h))
              have hg34 : (Value.slice (some ⟨g3, 0, none⟩) (W + 1) k3).ownBlock ≠ some g4 := by
                intro h
                have h' : g3 = g4 := by injection h
                subst h'
                rcases hat8 with h | h
                · exact hg3 (by injection h with h; exact h.symm)
                · simp at h; omega
              have hR8 : Row w8 w1.heap.size g4 (T + 1) k4 (tried ++ [(e : Int)]) := ⟨by rw [List.map_append]; exact hown8, by simp [small]; omega⟩
              have HP2 : Hid (walkT N ps (a : Int) (t : Int) (e : Int) (walk ++ [s]) (tried ++ [(e : Int)]) ∧ (walk ++ [s]).length = W + 1 ∧ (tried ++ [(e : Int)]).length = T + 1) := Lib.hid ⟨by have := HP.out; rw [Hs.out.2.1] at this; exact this, by rw [List.length_append, Hst.out.2.1]; rfl, by rw [List.length_append, Hst.out.2.2]; rfl⟩
              clear hown8 hgr8 hat8 hR7 hR7o hown7' hrow
              go_wp2
              go_roundw
              case rel => exact ⟨e, walk ++ [s], tried ++ [(e : Int)], W + 1, T + 1, g4, k4, k3, some ⟨g3, 0, none⟩, HP2.out.2.1, HP2.out.2.2, hT4, by omega, rfl, rfl, rfl, HP2.out.1, hownw, hg34, hR8, hB8⟩
              case measure => simp [sLen7]; omega
          · have hfb : (f == (x : Int)) = false := by simpa using hfx
            have Hn := Lib.hid (HTK.out _ HNO.out (show ¬(stFr ps s = (x : Int) ∧ stTo ps s ∉ tried) from fun h => hfx (by rw [← Hs.out.2.2.1]; exact h.1)))
            clear hfx
            go_wp2
            go_roundw
            case rel => exact ⟨j + 1, by omega, by go_num, rfl, rfl, rfl, Hn.out, hown3, hR3, hB3⟩
            case measure => simp [intOf]; omega
        · have hjS : j = SN.length := by rw [HSN.out.2.1]; omega
          have hnone : ∀ t', t' < 2 * ps.length → tstepF N ps t' = true → stFr ps t' = (x : Int) → stTo ps t' ∈ tried := fun t' h1 h2 h3 => by
            have hm := HSN.out.2.2.2 t' h1 h2
            have h4 := HNO.out t' (by rw [hjS, List.take_length]; exact hm)
            exact Classical.byContradiction fun h5 => h4 ⟨h3, h5⟩
          have hWpos : 0 < W := by
            apply Nat.pos_of_ne_zero
            intro h0
            have hw0 : walk = [] := List.eq_nil_of_length_eq_zero (by rw [Hst.out.2.1]; exact h0)
            have hs0 := Hst.out.1
            rw [hw0] at hs0
            exact walkT_stuck HE.out.1 hs0 hnone HX.out (by omega) (by omega) HE.out.2.1
          obtain ⟨W', rfl⟩ : ∃ W', W = W' + 1 := ⟨W - 1, by omega⟩
          obtain ⟨wk, s, rfl⟩ : ∃ wk s, walk = wk ++ [s] := by
            have hne : walk ≠ [] := fun h => by
              have := Hst.out.2.1
              rw [h] at this
              simp at this
            exact ⟨walk.dropLast, walk.getLast hne, (List.dropLast_concat_getLast hne).symm⟩
          have hwk : wk.length = W' := by
            have := Hst.out.2.1
            rw [List.length_append] at this
            simp at this; omega
          have HPOP := Lib.hid (walkT_pop Hst.out.1 hnone HX.out)
          have hsm := Hst.out.1.2.1 s (by simp)
          obtain ⟨⟨f0, f1⟩, -, -⟩ := HE.out.2.2.2 _ hsm.1
          obtain ⟨f, hf⟩ : ∃ f : Nat, stFr ps s = (f : Int) := ⟨(stFr ps s).toNat, by omega⟩
          obtain ⟨A3, c3, hv3, hc31, hc32, hown3⟩ := own_form hown
          injection hv3 with x1 x2 x3
          subst x1
          subst x3
          obtain ⟨gw, rfl, hgw1, hgw2, cw0, -⟩ := hown3 W' (.int .i64 (s : Int)) (by
            rw [List.getElem?_map, List.getElem?_map, List.getElem?_append_right (by omega), hwk, Nat.sub_self]
            rfl)
          have hfr0 := own_front7 hown (show W' ≤ W' + 1 by omega)
          have hfr : wr.ownsRow w1.heap.size 3 1 (.slice (some ⟨gw, 0, none⟩) W' cw) W' ((ofS wk).map (Value.int .i64)) := by
            rw [ofS, ← List.map_take, ← List.map_take, List.take_left' hwk] at hfr0
            exact hfr0
          have hoff2 : (Value.slice (some ⟨gw, 0, none⟩) W' cw).ownBlock ≠ some g := hoff
          have Hs := Lib.hid (And.intro hf (And.intro hwk hjS))
          have hs1 := hsm.1
          unfold maxLen at hc32
          have hlast : ((W' + 1 : Nat) : Int) - 1 = (W' : Int) := by omega
          clear hnone hf hwk hsm f0 f1 hown3 hfr0 x2 hoff hWpos
          go_wp2_with fail
          with_reducible refine (stepEnds_any s _ ps b _ (hp0.keep (hB1.trans (hB.mono hz1))) hs1 hl7).mono ?_
          rintro ee w3 ⟨rfl, hb3⟩
          rw [Hs.out.1]
          have hB3 : Below w1.heap.size w1 w3 := hB.trans (hb3.mono hzb)
          have hown3 := own_keep hfr (Nat.le_refl _) hb3
          have hR3 := hR.keep hb3
          have hz3 := hB3.size
          have HP2 : Hid (walkT N ps (a : Int) (t : Int) (f : Int) wk tried) := Lib.hid (by have := HPOP.out; rw [Hs.out.1] at this; exact this)
          clear hown hR hb3 hzb hB hfr
          go_wp2
          go_roundw
          case rel => exact ⟨f, wk, tried, W', T, g, k, cw, some ⟨gw, 0, none⟩, Hs.out.2.1, Hst.out.2.2, hT5, by omega, rfl, rfl, by first | rfl | go_num, HP2.out, hown3, hoff2, hR3, hB3⟩
          case measure => simp [sLen7]

end Go.Proofs.Ytmeicnhlehdboaa
