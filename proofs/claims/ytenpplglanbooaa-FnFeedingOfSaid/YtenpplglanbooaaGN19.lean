/- Plain facts. -/
import Derived.Test.YtenpplglanbooaaGN32
import Derived.Test.YtenpplglanbooaaGN29
import Derived.Test.YtenpplglanbooaaGN33
import Derived.Test.YtenpplglanbooaaWN
import Derived.Test.YtenpplglanbooaaGN25
import Derived.Test.YtenpplglanbooaaGN38
/- Contracts of the functions of chapter 2 in the program: NarrowestOf. -/
namespace Go.Proofs.Ytenpplglanbooaa
open Go.RowKit

def narrF (ps : List Pp) (a b m : Int) (k : Nat) : Bool := partsB (k : Int) a b && decide (room (k : Int) ps = m)

theorem narrow_yes {n : Int} {ps : List Pp} {a b : Int} (h : endsB n ps a b = true) : narrowL n ps a b = numW (2 ^ n.toNat) (narrF ps a b (leastI n ps a b)) := by rw [narrowL, if_pos h]; rfl
theorem narrow_no {n : Int} {ps : List Pp} {a b : Int} (h : endsB n ps a b = false) : narrowL n ps a b = [] := by rw [narrowL, if_neg (by simp [h])]

end Go.Proofs.Ytenpplglanbooaa

/- Contracts of the functions of chapters 5 and 10 in the program: BlockingSide, ShortSide. -/
namespace Go.Proofs.Ytenpplglanbooaa
open Go.RowKit

def lsideR (cnt : Nat) (f : Nat → Bool) : Int × Bool := match (List.range cnt).find? f with
  | some k => ((k : Int), true)
  | none => (-1, false)
theorem lside_some {cnt q : Nat} {f : Nat → Bool} (h : (List.range cnt).find? f = some q) : lsideR cnt f = ((q : Int), true) := by rw [lsideR, h]
theorem lside_none {cnt : Nat} {f : Nat → Bool} (h : (List.range cnt).find? f = none) : lsideR cnt f = (-1, false) := by rw [lsideR, h]
theorem lside_block {n : Int} {ps : List Pp} (h : netOkB n ps = true) : blockR n ps = lsideR (2 ^ n.toNat) (blockF ps) := by
  unfold blockR lsideR
  rw [blockO_yes h]
  cases (List.range (2 ^ n.toNat)).find? (blockF ps) <;> rfl
theorem lside_short {n : Int} {ps : List Pp} {nd : List Int} (h : needsB n ps nd = true) : shortR n ps nd = lsideR (2 ^ n.toNat) (shortF n nd ps) := by
  unfold shortR lsideR
  rw [shortO_yes h]
  cases (List.range (2 ^ n.toNat)).find? (shortF n nd ps) <;> rfl

/-- what the operations of a short side's test yield -/
def shV (bn : Nat) (v o : Value) (k : Nat) (S R : Int) (t : Bool) : Nat → Value → Prop
  | 0, x => x = o
  | 1, x => x = .int .i64 k
  | 2, x => x = .int .i64 S
  | 3, x => x = .pointer (some ⟨bn, 1, none⟩)
  | 4, x => x = v
  | 5, x => x = .int .i64 k
  | 6, x => x = .int .i64 (-1 - (k : Int))
  | 7, x => x = .int .i64 R
  | 8, x => x = .bool t
  | 9, x => x = .bool t
  | _, _ => True

set_option maxHeartbeats 2000000 in
set_option maxRecDepth 20000 in
theorem shortFn_any (n : Int) (k bn bo : Nat) (v o : Value) (ps : List Pp) (nd : List Int) (b b2 : Nat) (w : World) (hp : Pipes w b v ps) (ho : Ints w b2 o nd) (hok : needsB n ps nd = true) (hk : k ≤ 31) (hbn : bn < w.heap.size) (hbo : bo < w.heap.size) (d1 : w.cell? ⟨bn, 1, none⟩ = some v) (d0 : w.cell? ⟨bo, 0, none⟩ = some o) :
    Calls Try.prog 50 #[.int .i64 k, .pointer (some ⟨bo, 0, none⟩), .pointer (some ⟨bn, 0, none⟩)] w fun e w' => e = .returned (.bool (shortF n nd ps k)) ∧ Below w.heap.size w w' := by
  have hp0 := hp
  have ho0 := ho
  obtain ⟨A, c, rfl, -, -, -, -⟩ := hp.form
  obtain ⟨A2, c2, rfl, -, -, -, -⟩ := ho.form
  obtain ⟨mo, hmo⟩ : ∃ m, nd.length = m := ⟨_, rfl⟩
  have hq := needs_parts hok
  have hnet := free_net hq.1
  have hb5 := (netOk_parts hnet).2.1
  have Hnet := Lib.hid hnet
  have Hbd := Lib.hid hq.2.2.1
  have Hl5 := Lib.hid (show nd.length ≤ 5 by have := hq.2.1; omega)
  have e : n.toNat = nd.length := by have := hq.2.1; omega
  have HF : Hid (shortF n nd ps k = decide (room (-1 - (k : Int)) ps < needSum nd.length nd k)) := Lib.hid (by rw [shortF, e])
  rw [hmo] at ho0 d0
  obtain ⟨S, hS⟩ : ∃ S, needSum nd.length nd k = S := ⟨_, rfl⟩
  obtain ⟨R, hR⟩ : ∃ R, room (-1 - (k : Int)) ps = R := ⟨_, rfl⟩
  rw [hS, hR] at HF
  have HS := Lib.hid hS
  have HR := Lib.hid hR
  have hno := not_side (s := (k : Int)) (by omega) (by omega)
  have Hno := Lib.hid hno
  obtain ⟨t, ht⟩ : ∃ t, decide (R < S) = t := ⟨_, rfl⟩
  rw [ht] at HF
  have Ht := Lib.hid ht
  clear hmo hq hnet hb5 e hS hR hno ho hok ht
  go_enter Try.func50, Try.ntmps50
  go_wp2_with fail
  refine wp_region_flow 10 none [(0, 5), (1, 6), (2, 7), (3, 8), (4, 9), (5, 10), (6, 11), (7, 12), (8, 13), (9, 4)] (fun j x _ _ => shV bn (.slice A ps.length c) (.slice A2 mo c2) k S R t j x) (fun _ _ _ => True) (fun _ wx => Below w.heap.size w wx) (by kernel_rfl) (by kernel_rfl) rfl ⟨rfl, rfl, rfl, Nat.le_refl _, fun _ _ => rfl⟩ ?_ ?_ ?_ ?_
  · exact fun _ _ _ _ _ _ _ _ _ _ h => h
  · exact fun _ _ _ _ _ _ _ h => h
  · simp only [eachOp, fillF, List.setIfInBounds_toArray, List.set_cons_succ, List.set_cons_zero]
    refine ⟨?_, ?_, ?_, ?_, ?_, ?_, ?_, ?_, ?_, ?_, trivial⟩ <;> intro u f wx hC hd <;> (try simp [allV, useOf, Region.binds] at hd)
    · have y0 := (bel_cell hC hbo).trans d0
      go_wp2
      exact ⟨_, rfl, rfl, trivial, hC⟩
    · go_wp2
      exact ⟨_, rfl, rfl, trivial, hC⟩
    · rw [show u 0 = _ from hd.1, show u 1 = _ from hd.2]
      go_wp2_with fail
      refine (needsOf_any k _ nd b2 _ (ho0.keep hC) Hl5.out Hbd.out).mono ?_
      rintro e w4 ⟨rfl, hb4⟩
      rw [HS.out]
      go_wp2
      exact ⟨_, rfl, rfl, trivial, hC.trans (hb4.mono hC.size)⟩
    · go_wp2
      exact ⟨_, rfl, rfl, trivial, hC⟩
    · rw [show u 3 = _ from hd]
      have y0 := (bel_cell hC hbn).trans d1
      go_wp2
      exact ⟨_, rfl, rfl, trivial, hC⟩
    · go_wp2
      exact ⟨_, rfl, rfl, trivial, hC⟩
    · rw [show u 5 = _ from hd]
      go_wp2
      exact ⟨_, rfl, congrArg (Value.int .i64) Hno.out, trivial, hC⟩
    · rw [show u 4 = _ from hd.1, show u 6 = _ from hd.2]
      go_wp2_with fail
      refine (roomOfN_any _ n k _ ps b _ (hp0.keep hC) Hnet.out rfl hk).mono ?_
      rintro e w4 ⟨rfl, hb4⟩
      rw [HR.out]
      go_wp2
      exact ⟨_, rfl, rfl, trivial, hC.trans (hb4.mono hC.size)⟩
    · rw [show u 2 = _ from hd.1, show u 7 = _ from hd.2]
      go_wp2
      exact ⟨_, rfl, congrArg Value.bool Ht.out, trivial, hC⟩
    · rw [show u 8 = _ from hd]
      go_wp2
      exact ⟨_, rfl, rfl, trivial, hC⟩
  · intro u f wx hC hfin
    simp only [fillEnd, fillF, Act.put, List.setIfInBounds_toArray, List.set_cons_succ, List.set_cons_zero]
    rw [show u 9 = _ from hfin 9 (by decide) (by decide)]
    clear hfin
    go_wp2
    go_ret
    exact ⟨ret_bool HF.out.symm, hC⟩

set_option maxHeartbeats 1000000 in
set_option maxRecDepth 20000 in
theorem shortWhere_any (n : Int) (cnt bn bo : Nat) (v o : Value) (ps : List Pp) (nd : List Int) (b b2 : Nat) (w : World) (hp : Pipes w b v ps) (ho : Ints w b2 o nd) (hok : needsB n ps nd = true) (hcnt : cnt ≤ 32) (hbn : bn < w.heap.size) (hbo : bo < w.heap.size) (d1 : w.cell? ⟨bn, 1, none⟩ = some v) (d0 : w.cell? ⟨bo, 0, none⟩ = some o) :
    Calls Try.prog 77 #[.int .i64 cnt, .func (Fn.func 50) #[] #[.pointer (some ⟨bo, 0, none⟩), .pointer (some ⟨bn, 0, none⟩)]] w fun e w' => ∃ r, e = .returned r ∧ Ints w' w.heap.size r (numW cnt (shortF n nd ps)) ∧ Below w.heap.size w w' := by
  have Hok := Lib.hid hok
  clear hok
  go_enter Try.func77, Try.ntmps77
  go_wp2
  obtain ⟨i0, hi0, hz0, hz1, hz2⟩ := info_parts int_info
  go_loopw [8, 5] (fun i t wr => ∃ (k j k1 : Nat) (A1 : Option Addr), k ≤ cnt ∧ i = .int .i64 k ∧ t = .slice A1 j k1 ∧ (numW k (shortF n nd ps)).length = j ∧
      wr.ownsRow w.heap.size 3 1 (.slice A1 j k1) j ((numW k (shortF n nd ps)).map (Value.int .i64)) ∧ Below w.heap.size w wr) (fun i _ _ => cnt - (intOf i).toNat)
  case atStart => exact ⟨0, 0, 0, none, by omega, rfl, rfl, rfl, World.ownsRow_nil _ _ _ 1, Below.refl _ _⟩
  case round =>
    obtain ⟨k, j, k1, A1, hk, rfl, rfl, hj, hown, hb⟩ := hrel
    have hjk : j ≤ k := by rw [← hj]; exact numW_len k _
    have HJ := Lib.hid hj
    clear hj
    obtain ⟨hcr, hfr, hzr⟩ := bcell hb
    by_cases hlt : k < cnt
    · by_cases hf : (shortF n nd ps) k = true
      · have Hf := Lib.hid (numW_yes hf)
        go_wp2_with fail
        refine (shortFn_any n k bn bo v o ps nd b b2 _ (hp.keep (by (repeat (first | (with_reducible assumption) | (with_reducible exact Below.refl _ _) | ((with_reducible refine Below.alloc ?_ ?hsz _); (case hsz => (first | omega | (simp; done) | (simp; omega) | (simp at *; omega)))) | ((with_reducible refine Below.setCell ?_ ?hsz _); (case hsz => (first | omega | (simp; done) | (simp; omega) | (simp at *; omega)))) | (with_reducible refine Below.drew ?_) | (with_reducible refine below_drewN ?_ _) | ((with_reducible refine Below.trans ?_ (Below.mono (by with_reducible assumption) ?hsz)); (case hsz => (first | omega | (simp; done) | (simp; omega) | (simp at *; omega)))))))) (ho.keep (by (repeat (first | (with_reducible assumption) | (with_reducible exact Below.refl _ _) | ((with_reducible refine Below.alloc ?_ ?hsz _); (case hsz => (first | omega | (simp; done) | (simp; omega) | (simp at *; omega)))) | ((with_reducible refine Below.setCell ?_ ?hsz _); (case hsz => (first | omega | (simp; done) | (simp; omega) | (simp at *; omega)))) | (with_reducible refine Below.drew ?_) | (with_reducible refine below_drewN ?_ _) | ((with_reducible refine Below.trans ?_ (Below.mono (by with_reducible assumption) ?hsz)); (case hsz => (first | omega | (simp; done) | (simp; omega) | (simp at *; omega)))))))) Hok.out (by omega) (by (first | omega | (simp; done) | (simp; omega) | (simp at *; omega))) (by (first | omega | (simp; done) | (simp; omega) | (simp at *; omega))) (by (repeat (first | (with_reducible assumption) | ((with_reducible refine (Below.cell (by with_reducible assumption) ?hsz).trans ?_); (case hsz => (first | omega | (simp; done) | (simp; omega) | (simp at *; omega)))) | ((with_reducible refine (World.cell?_alloc_lt _ _ _ ?hsz).trans ?_); (case hsz => (first | omega | (simp; done) | (simp; omega) | (simp at *; omega)))) | ((with_reducible refine (World.cell?_setCell_other _ _ _ _ ?hsz).trans ?_); (case hsz => (intro h; injection h with h1 h2; omega)))))) (by (repeat (first | (with_reducible assumption) | ((with_reducible refine (Below.cell (by with_reducible assumption) ?hsz).trans ?_); (case hsz => (first | omega | (simp; done) | (simp; omega) | (simp at *; omega)))) | ((with_reducible refine (World.cell?_alloc_lt _ _ _ ?hsz).trans ?_); (case hsz => (first | omega | (simp; done) | (simp; omega) | (simp at *; omega)))) | ((with_reducible refine (World.cell?_setCell_other _ _ _ _ ?hsz).trans ?_); (case hsz => (intro h; injection h with h1 h2; omega))))))).mono ?_
        rintro e w2 ⟨rfl, hb2⟩
        have hown2 := own_keep hown (Nat.le_refl _) hb2
        have hz2' := hb2.size
        have hbw2 : Below w.heap.size w w2 := by (repeat (first | (with_reducible assumption) | (with_reducible exact Below.refl _ _) | ((with_reducible refine Below.alloc ?_ ?hsz _); (case hsz => (first | omega | (simp; done) | (simp; omega) | (simp at *; omega)))) | ((with_reducible refine Below.setCell ?_ ?hsz _); (case hsz => (first | omega | (simp; done) | (simp; omega) | (simp at *; omega)))) | (with_reducible refine Below.drew ?_) | (with_reducible refine below_drewN ?_ _) | ((with_reducible refine Below.trans ?_ (Below.mono (by with_reducible assumption) ?hsz)); (case hsz => (first | omega | (simp; done) | (simp; omega) | (simp at *; omega))))))
        have hrow : ∀ q, (Value.slice A1 j k1).ownBlock = some q → w.heap.size ≤ q := fun q hq => (hown.lt q hq).1
        clear hown hcr hfr hb hb2
        go_wp2_with (first
          | (at_builtin
             go_must (refine wpList_append_lies _ rfl _ _ 26 rfl w.heap.size 3 i0 _ 1 8 Try.underlying26 hi0 hz0 hz1 hz2 rfl (by omega) _ j _ rfl (hown2.alloc _) ⟨w2.heap.size, 0, none⟩ 1 1 [.int .i64 k] rfl rfl (World.news_of_block (cs := #[.int .i64 k]) (t := 3) (fr := (0, 0)) (heap_alloc_new _ _)) (by simp [Value.oneCell']) (by omega) (by unfold maxLen; omega) (by omega) (by simp; omega) _ rfl ?_)
             intro g2 k2 w7 hown7 hgr7 hat7 hlt7))
        have hb7 : Below w.heap.size w w7 := by
          refine Below.grown (w := w2.alloc (.cells #[.int .i64 k] 3)) (by (repeat (first | (with_reducible assumption) | (with_reducible exact Below.refl _ _) | ((with_reducible refine Below.alloc ?_ ?hsz _); (case hsz => (first | omega | (simp; done) | (simp; omega) | (simp at *; omega)))) | ((with_reducible refine Below.setCell ?_ ?hsz _); (case hsz => (first | omega | (simp; done) | (simp; omega) | (simp at *; omega)))) | (with_reducible refine Below.drew ?_) | (with_reducible refine below_drewN ?_ _) | ((with_reducible refine Below.trans ?_ (Below.mono (by with_reducible assumption) ?hsz)); (case hsz => (first | omega | (simp; done) | (simp; omega) | (simp at *; omega))))))) hgr7 (by (first | omega | (simp; done) | (simp; omega) | (simp at *; omega))) hrow
        have hown8 : w7.ownsRow w.heap.size 3 1 (.slice (some ⟨g2, 0, none⟩) (j + 1) k2) (j + 1) ((numW (k + 1) (shortF n nd ps)).map (Value.int .i64)) := by
          rw [Hf.out, List.map_append]
          simpa using hown7
        have hj8 : (numW (k + 1) (shortF n nd ps)).length = j + 1 := by rw [Hf.out, List.length_append, HJ.out]; rfl
        clear hown7 hgr7 hat7 hlt7
        go_roundw
        case rel => exact ⟨k + 1, j + 1, k2, some ⟨g2, 0, none⟩, by omega, by go_num, rfl, hj8, hown8, hb7⟩
        case measure => simp [intOf]; omega
      · have hf' : (shortF n nd ps) k = false := by simpa using hf
        have Hf := Lib.hid (numW_no hf')
        clear hf
        go_wp2_with fail
        refine (shortFn_any n k bn bo v o ps nd b b2 _ (hp.keep (by (repeat (first | (with_reducible assumption) | (with_reducible exact Below.refl _ _) | ((with_reducible refine Below.alloc ?_ ?hsz _); (case hsz => (first | omega | (simp; done) | (simp; omega) | (simp at *; omega)))) | ((with_reducible refine Below.setCell ?_ ?hsz _); (case hsz => (first | omega | (simp; done) | (simp; omega) | (simp at *; omega)))) | (with_reducible refine Below.drew ?_) | (with_reducible refine below_drewN ?_ _) | ((with_reducible refine Below.trans ?_ (Below.mono (by with_reducible assumption) ?hsz)); (case hsz => (first | omega | (simp; done) | (simp; omega) | (simp at *; omega)))))))) (ho.keep (by (repeat (first | (with_reducible assumption) | (with_reducible exact Below.refl _ _) | ((with_reducible refine Below.alloc ?_ ?hsz _); (case hsz => (first | omega | (simp; done) | (simp; omega) | (simp at *; omega)))) | ((with_reducible refine Below.setCell ?_ ?hsz _); (case hsz => (first | omega | (simp; done) | (simp; omega) | (simp at *; omega)))) | (with_reducible refine Below.drew ?_) | (with_reducible refine below_drewN ?_ _) | ((with_reducible refine Below.trans ?_ (Below.mono (by with_reducible assumption) ?hsz)); (case hsz => (first | omega | (simp; done) | (simp; omega) | (simp at *; omega)))))))) Hok.out (by omega) (by (first | omega | (simp; done) | (simp; omega) | (simp at *; omega))) (by (first | omega | (simp; done) | (simp; omega) | (simp at *; omega))) (by (repeat (first | (with_reducible assumption) | ((with_reducible refine (Below.cell (by with_reducible assumption) ?hsz).trans ?_); (case hsz => (first | omega | (simp; done) | (simp; omega) | (simp at *; omega)))) | ((with_reducible refine (World.cell?_alloc_lt _ _ _ ?hsz).trans ?_); (case hsz => (first | omega | (simp; done) | (simp; omega) | (simp at *; omega)))) | ((with_reducible refine (World.cell?_setCell_other _ _ _ _ ?hsz).trans ?_); (case hsz => (intro h; injection h with h1 h2; omega)))))) (by (repeat (first | (with_reducible assumption) | ((with_reducible refine (Below.cell (by with_reducible assumption) ?hsz).trans ?_); (case hsz => (first | omega | (simp; done) | (simp; omega) | (simp at *; omega)))) | ((with_reducible refine (World.cell?_alloc_lt _ _ _ ?hsz).trans ?_); (case hsz => (first | omega | (simp; done) | (simp; omega) | (simp at *; omega)))) | ((with_reducible refine (World.cell?_setCell_other _ _ _ _ ?hsz).trans ?_); (case hsz => (intro h; injection h with h1 h2; omega))))))).mono ?_
        rintro e w2 ⟨rfl, hb2⟩
        have hown2 := own_keep hown (Nat.le_refl _) hb2
        have hbw2 : Below w.heap.size w w2 := by (repeat (first | (with_reducible assumption) | (with_reducible exact Below.refl _ _) | ((with_reducible refine Below.alloc ?_ ?hsz _); (case hsz => (first | omega | (simp; done) | (simp; omega) | (simp at *; omega)))) | ((with_reducible refine Below.setCell ?_ ?hsz _); (case hsz => (first | omega | (simp; done) | (simp; omega) | (simp at *; omega)))) | (with_reducible refine Below.drew ?_) | (with_reducible refine below_drewN ?_ _) | ((with_reducible refine Below.trans ?_ (Below.mono (by with_reducible assumption) ?hsz)); (case hsz => (first | omega | (simp; done) | (simp; omega) | (simp at *; omega))))))
        clear hown hcr hfr hb hb2
        go_wp2
        go_roundw
        case rel => exact ⟨k + 1, j, k1, A1, by omega, by go_num, rfl, by rw [Hf.out]; exact HJ.out, by rw [Hf.out]; exact hown2, hbw2⟩
        case measure => simp [intOf]; omega
    · go_wp2
      go_ret
      have hk2 : k = cnt := by omega
      subst hk2
      exact ⟨_, rfl, ⟨by rw [HJ.out]; exact hown, by rw [HJ.out]; unfold small; omega⟩, hb⟩

set_option maxHeartbeats 1000000 in
set_option maxRecDepth 20000 in
theorem lsideS_2 (n : Int) (bn bo : Nat) (v o : Value) (ps : List Pp) (nd : List Int) (b b2 : Nat) (w : World) (hp : Pipes w b v ps) (ho : Ints w b2 o nd) (hok : needsB n ps nd = true) (hbn : bn < w.heap.size) (hbo : bo < w.heap.size) (d1 : w.cell? ⟨bn, 1, none⟩ = some v) (d0 : w.cell? ⟨bo, 0, none⟩ = some o) :
    Calls Try.prog 49 #[.int .i64 2, .func (Fn.func 50) #[] #[.pointer (some ⟨bo, 0, none⟩), .pointer (some ⟨bn, 0, none⟩)]] w fun e w' => e = .returned (.tuple #[.int .i64 (lsideR 4 (shortF n nd ps)).1, .bool (lsideR 4 (shortF n nd ps)).2]) ∧ Below w.heap.size w w' := by
  have Hok := Lib.hid hok
  clear hok
  go_enter Try.func49, Try.ntmps49
  go_wp2_with fail
  refine (shortWhere_any n 4 bn bo v o ps nd b b2 _ hp ho Hok.out (by omega) hbn hbo d1 d0).mono ?_
  rintro e w2 ⟨r, rfl, hr, hb2⟩
  rcases hq : (List.range 4).find? (shortF n nd ps) with _ | q
  · have Hr := Lib.hid (lside_none hq)
    rw [numW_none hq] at hr
    obtain ⟨A2, c2, rfl, -, -, -, -⟩ := hr.form
    clear hq
    go_wp2
    go_ret2
    exact ⟨ret_ib (by rw [Hr.out]), hb2⟩
  · have Hr := Lib.hid (lside_some hq)
    obtain ⟨h1, h2⟩ := numW_head hq
    obtain ⟨g, cap, rfl, hR⟩ := hr.row h1
    obtain ⟨y0, -⟩ := hR.at' 0 h1
    rw [h2] at y0
    obtain ⟨og1, og2⟩ := hR.lt
    obtain ⟨N, hN⟩ : ∃ N, (numW 4 (shortF n nd ps)).length = N := ⟨_, rfl⟩
    rw [hN] at h1 ⊢
    clear hR hr hN hq h2
    have h1' : ((N : Int) == 0) = false := by rw [beq_dec]; exact decide_eq_false (by omega)
    go_wp2
    go_ret2
    exact ⟨ret_ib (by rw [Hr.out]), hb2⟩

set_option maxHeartbeats 1000000 in
set_option maxRecDepth 20000 in
theorem lsideS_3 (n : Int) (bn bo : Nat) (v o : Value) (ps : List Pp) (nd : List Int) (b b2 : Nat) (w : World) (hp : Pipes w b v ps) (ho : Ints w b2 o nd) (hok : needsB n ps nd = true) (hbn : bn < w.heap.size) (hbo : bo < w.heap.size) (d1 : w.cell? ⟨bn, 1, none⟩ = some v) (d0 : w.cell? ⟨bo, 0, none⟩ = some o) :
    Calls Try.prog 49 #[.int .i64 3, .func (Fn.func 50) #[] #[.pointer (some ⟨bo, 0, none⟩), .pointer (some ⟨bn, 0, none⟩)]] w fun e w' => e = .returned (.tuple #[.int .i64 (lsideR 8 (shortF n nd ps)).1, .bool (lsideR 8 (shortF n nd ps)).2]) ∧ Below w.heap.size w w' := by
  have Hok := Lib.hid hok
  clear hok
  go_enter Try.func49, Try.ntmps49
  go_wp2_with fail
  refine (shortWhere_any n 8 bn bo v o ps nd b b2 _ hp ho Hok.out (by omega) hbn hbo d1 d0).mono ?_
  rintro e w2 ⟨r, rfl, hr, hb2⟩
  rcases hq : (List.range 8).find? (shortF n nd ps) with _ | q
  · have Hr := Lib.hid (lside_none hq)
    rw [numW_none hq] at hr
    obtain ⟨A2, c2, rfl, -, -, -, -⟩ := hr.form
    clear hq
    go_wp2
    go_ret2
    exact ⟨ret_ib (by rw [Hr.out]), hb2⟩
  · have Hr := Lib.hid (lside_some hq)
    obtain ⟨h1, h2⟩ := numW_head hq
    obtain ⟨g, cap, rfl, hR⟩ := hr.row h1
    obtain ⟨y0, -⟩ := hR.at' 0 h1
    rw [h2] at y0
    obtain ⟨og1, og2⟩ := hR.lt
    obtain ⟨N, hN⟩ : ∃ N, (numW 8 (shortF n nd ps)).length = N := ⟨_, rfl⟩
    rw [hN] at h1 ⊢
    clear hR hr hN hq h2
    have h1' : ((N : Int) == 0) = false := by rw [beq_dec]; exact decide_eq_false (by omega)
    go_wp2
    go_ret2
    exact ⟨ret_ib (by rw [Hr.out]), hb2⟩

set_option maxHeartbeats 1000000 in
set_option maxRecDepth 20000 in
theorem lsideS_4 (n : Int) (bn bo : Nat) (v o : Value) (ps : List Pp) (nd : List Int) (b b2 : Nat) (w : World) (hp : Pipes w b v ps) (ho : Ints w b2 o nd) (hok : needsB n ps nd = true) (hbn : bn < w.heap.size) (hbo : bo < w.heap.size) (d1 : w.cell? ⟨bn, 1, none⟩ = some v) (d0 : w.cell? ⟨bo, 0, none⟩ = some o) :
    Calls Try.prog 49 #[.int .i64 4, .func (Fn.func 50) #[] #[.pointer (some ⟨bo, 0, none⟩), .pointer (some ⟨bn, 0, none⟩)]] w fun e w' => e = .returned (.tuple #[.int .i64 (lsideR 16 (shortF n nd ps)).1, .bool (lsideR 16 (shortF n nd ps)).2]) ∧ Below w.heap.size w w' := by
  have Hok := Lib.hid hok
  clear hok
  go_enter Try.func49, Try.ntmps49
  go_wp2_with fail
  refine (shortWhere_any n 16 bn bo v o ps nd b b2 _ hp ho Hok.out (by omega) hbn hbo d1 d0).mono ?_
  rintro e w2 ⟨r, rfl, hr, hb2⟩
  rcases hq : (List.range 16).find? (shortF n nd ps) with _ | q
  · have Hr := Lib.hid (lside_none hq)
    rw [numW_none hq] at hr
    obtain ⟨A2, c2, rfl, -, -, -, -⟩ := hr.form
    clear hq
    go_wp2
    go_ret2
    exact ⟨ret_ib (by rw [Hr.out]), hb2⟩
  · have Hr := Lib.hid (lside_some hq)
    obtain ⟨h1, h2⟩ := numW_head hq
    obtain ⟨g, cap, rfl, hR⟩ := hr.row h1
    obtain ⟨y0, -⟩ := hR.at' 0 h1
    rw [h2] at y0
    obtain ⟨og1, og2⟩ := hR.lt
    obtain ⟨N, hN⟩ : ∃ N, (numW 16 (shortF n nd ps)).length = N := ⟨_, rfl⟩
    rw [hN] at h1 ⊢
    clear hR hr hN hq h2
    have h1' : ((N : Int) == 0) = false := by rw [beq_dec]; exact decide_eq_false (by omega)
    go_wp2
    go_ret2
    exact ⟨ret_ib (by rw [Hr.out]), hb2⟩

set_option maxHeartbeats 1000000 in
set_option maxRecDepth 20000 in
theorem lsideS_5 (n : Int) (bn bo : Nat) (v o : Value) (ps : List Pp) (nd : List Int) (b b2 : Nat) (w : World) (hp : Pipes w b v ps) (ho : Ints w b2 o nd) (hok : needsB n ps nd = true) (hbn : bn < w.heap.size) (hbo : bo < w.heap.size) (d1 : w.cell? ⟨bn, 1, none⟩ = some v) (d0 : w.cell? ⟨bo, 0, none⟩ = some o) :
    Calls Try.prog 49 #[.int .i64 5, .func (Fn.func 50) #[] #[.pointer (some ⟨bo, 0, none⟩), .pointer (some ⟨bn, 0, none⟩)]] w fun e w' => e = .returned (.tuple #[.int .i64 (lsideR 32 (shortF n nd ps)).1, .bool (lsideR 32 (shortF n nd ps)).2]) ∧ Below w.heap.size w w' := by
  have Hok := Lib.hid hok
  clear hok
  go_enter Try.func49, Try.ntmps49
  go_wp2_with fail
  refine (shortWhere_any n 32 bn bo v o ps nd b b2 _ hp ho Hok.out (by omega) hbn hbo d1 d0).mono ?_
  rintro e w2 ⟨r, rfl, hr, hb2⟩
  rcases hq : (List.range 32).find? (shortF n nd ps) with _ | q
  · have Hr := Lib.hid (lside_none hq)
    rw [numW_none hq] at hr
    obtain ⟨A2, c2, rfl, -, -, -, -⟩ := hr.form
    clear hq
    go_wp2
    go_ret2
    exact ⟨ret_ib (by rw [Hr.out]), hb2⟩
  · have Hr := Lib.hid (lside_some hq)
    obtain ⟨h1, h2⟩ := numW_head hq
    obtain ⟨g, cap, rfl, hR⟩ := hr.row h1
    obtain ⟨y0, -⟩ := hR.at' 0 h1
    rw [h2] at y0
    obtain ⟨og1, og2⟩ := hR.lt
    obtain ⟨N, hN⟩ : ∃ N, (numW 32 (shortF n nd ps)).length = N := ⟨_, rfl⟩
    rw [hN] at h1 ⊢
    clear hR hr hN hq h2
    have h1' : ((N : Int) == 0) = false := by rw [beq_dec]; exact decide_eq_false (by omega)
    go_wp2
    go_ret2
    exact ⟨ret_ib (by rw [Hr.out]), hb2⟩

set_option maxHeartbeats 1000000 in
set_option maxRecDepth 20000 in
theorem shortSide_any (n : Int) (v o : Value) (ps : List Pp) (nd : List Int) (b b2 : Nat) (w : World) (hp : Pipes w b v ps) (ho : Ints w b2 o nd) :
    Calls Try.prog 22 #[.agg #[.int .i64 n, v], o] w fun e w' => e = .returned (.tuple #[.int .i64 (shortR n ps nd).1, .bool (shortR n ps nd).2]) ∧ Below w.heap.size w w' := by
  have hp0 := hp
  have ho0 := ho
  obtain ⟨A, c, rfl, -, -, -, -⟩ := hp.form
  obtain ⟨A2, c2, rfl, -, -, -, -⟩ := ho.form
  obtain ⟨mo, hmo⟩ : ∃ m, nd.length = m := ⟨_, rfl⟩
  rw [hmo] at ho0 ⊢
  clear hmo ho
  obtain ⟨wa, hwa⟩ : ∃ wa, wa = (w.alloc (.cells #[.int .i64 n, .slice A ps.length c] 25)).alloc (.cells #[.slice A2 mo c2] 26) := ⟨_, rfl⟩
  have bxa : Box2 wa w.heap.size (.int .i64 n) (.slice A ps.length c) := by
    rw [hwa]
    exact (Box2.new w _ _ 25).keep ((Below.refl _ _).alloc (Nat.le_refl _) _)
  have hBa : Below w.heap.size w wa := by rw [hwa]; (repeat (first | (with_reducible assumption) | (with_reducible exact Below.refl _ _) | ((with_reducible refine Below.alloc ?_ ?hsz _); (case hsz => (first | omega | (simp; done) | (simp; omega) | (simp at *; omega)))) | ((with_reducible refine Below.setCell ?_ ?hsz _); (case hsz => (first | omega | (simp; done) | (simp; omega) | (simp at *; omega)))) | (with_reducible refine Below.drew ?_) | (with_reducible refine below_drewN ?_ _) | ((with_reducible refine Below.trans ?_ (Below.mono (by with_reducible assumption) ?hsz)); (case hsz => (first | omega | (simp; done) | (simp; omega) | (simp at *; omega))))))
  have c6 : wa.cell? ⟨w.heap.size + 1, 0, none⟩ = some (.slice A2 mo c2) := by
    rw [hwa]
    exact (World.cell?_alloc_at _ _ _ _ (by simp)).trans rfl
  have hza : w.heap.size + 1 < wa.heap.size := by rw [hwa]; simp
  have Hwa := Lib.hid (And.intro hwa (And.intro bxa (And.intro hBa (And.intro c6 hza))))
  clear hwa bxa hBa c6 hza
  by_cases hok : needsB n ps nd = true
  · have HR := Lib.hid (lside_short hok)
    have Hok := Lib.hid hok
    rcases side_n (free_net (needs_parts hok).1) with rfl | rfl | rfl | rfl
    · go_enter Try.func22, Try.ntmps22
      go_wp2_with fail
      generalize hW : World.alloc (World.alloc w _) _ = W2
      obtain rfl : wa = W2 := Hwa.out.1.trans hW
      obtain ⟨-, bxa, hBa, c6, hza⟩ := Hwa.out
      clear hW
      obtain ⟨bs, d0, d1, -, -⟩ := id bxa
      with_reducible refine (needsOk_any _ _ _ ps nd b b2 _ (hp0.keep hBa) (ho0.keep hBa)).mono ?_
      rintro e w1 ⟨rfl, hb1⟩
      rw [hok]
      have bx1 := bxa.keep hb1
      have hB1 := hBa.trans (hb1.mono hBa.size)
      have hz1 := hb1.size
      have c61 := (bel_cell hb1 (show w.heap.size + 1 < wa.heap.size by omega)).trans c6
      clear bxa d0 d1 bs c6 hb1
      obtain ⟨bs, d0, d1, -, -⟩ := id bx1
      go_wp2_with fail
      refine (lsideS_2 _ _ _ _ _ ps nd b b2 _ (hp0.keep hB1) (ho0.keep hB1) Hok.out bs (by omega) d1 c61).mono ?_
      rintro e w2 ⟨rfl, hb2⟩
      have hR : shortR 2 ps nd = lsideR 4 (shortF 2 nd ps) := HR.out
      rw [← hR]
      have hB2 := hB1.trans (hb2.mono hB1.size)
      clear HR hR
      go_wp2
      go_ret2
      exact ⟨rfl, hB2⟩
    · go_enter Try.func22, Try.ntmps22
      go_wp2_with fail
      generalize hW : World.alloc (World.alloc w _) _ = W2
      obtain rfl : wa = W2 := Hwa.out.1.trans hW
      obtain ⟨-, bxa, hBa, c6, hza⟩ := Hwa.out
      clear hW
      obtain ⟨bs, d0, d1, -, -⟩ := id bxa
      with_reducible refine (needsOk_any _ _ _ ps nd b b2 _ (hp0.keep hBa) (ho0.keep hBa)).mono ?_
      rintro e w1 ⟨rfl, hb1⟩
      rw [hok]
      have bx1 := bxa.keep hb1
      have hB1 := hBa.trans (hb1.mono hBa.size)
      have hz1 := hb1.size
      have c61 := (bel_cell hb1 (show w.heap.size + 1 < wa.heap.size by omega)).trans c6
      clear bxa d0 d1 bs c6 hb1
      obtain ⟨bs, d0, d1, -, -⟩ := id bx1
      go_wp2_with fail
      refine (lsideS_3 _ _ _ _ _ ps nd b b2 _ (hp0.keep hB1) (ho0.keep hB1) Hok.out bs (by omega) d1 c61).mono ?_
      rintro e w2 ⟨rfl, hb2⟩
      have hR : shortR 3 ps nd = lsideR 8 (shortF 3 nd ps) := HR.out
      rw [← hR]
      have hB2 := hB1.trans (hb2.mono hB1.size)
      clear HR hR
      go_wp2
      go_ret2
      exact ⟨rfl, hB2⟩
    · go_enter Try.func22, Try.ntmps22
      go_wp2_with fail
      generalize hW : World.alloc (World.alloc w _) _ = W2
      obtain rfl : wa = W2 := Hwa.out.1.trans hW
      obtain ⟨-, bxa, hBa, c6, hza⟩ := Hwa.out
      clear hW
      obtain ⟨bs, d0, d1, -, -⟩ := id bxa
      with_reducible refine (needsOk_any _ _ _ ps nd b b2 _ (hp0.keep hBa) (ho0.keep hBa)).mono ?_
      rintro e w1 ⟨rfl, hb1⟩
      rw [hok]
      have bx1 := bxa.keep hb1
      have hB1 := hBa.trans (hb1.mono hBa.size)
      have hz1 := hb1.size
      have c61 := (bel_cell hb1 (show w.heap.size + 1 < wa.heap.size by omega)).trans c6
      clear bxa d0 d1 bs c6 hb1
      obtain ⟨bs, d0, d1, -, -⟩ := id bx1
      go_wp2_with fail
      refine (lsideS_4 _ _ _ _ _ ps nd b b2 _ (hp0.keep hB1) (ho0.keep hB1) Hok.out bs (by omega) d1 c61).mono ?_
      rintro e w2 ⟨rfl, hb2⟩
      have hR : shortR 4 ps nd = lsideR 16 (shortF 4 nd ps) := HR.out
      rw [← hR]
      have hB2 := hB1.trans (hb2.mono hB1.size)
      clear HR hR
      go_wp2
      go_ret2
      exact ⟨rfl, hB2⟩
    · go_enter Try.func22, Try.ntmps22
      go_wp2_with fail
      generalize hW : World.alloc (World.alloc w _) _ = W2
      obtain rfl : wa = W2 := Hwa.out.1.trans hW
      obtain ⟨-, bxa, hBa, c6, hza⟩ := Hwa.out
      clear hW
      obtain ⟨bs, d0, d1, -, -⟩ := id bxa
      with_reducible refine (needsOk_any _ _ _ ps nd b b2 _ (hp0.keep hBa) (ho0.keep hBa)).mono ?_
      rintro e w1 ⟨rfl, hb1⟩
      rw [hok]
      have bx1 := bxa.keep hb1
      have hB1 := hBa.trans (hb1.mono hBa.size)
      have hz1 := hb1.size
      have c61 := (bel_cell hb1 (show w.heap.size + 1 < wa.heap.size by omega)).trans c6
      clear bxa d0 d1 bs c6 hb1
      obtain ⟨bs, d0, d1, -, -⟩ := id bx1
      go_wp2_with fail
      refine (lsideS_5 _ _ _ _ _ ps nd b b2 _ (hp0.keep hB1) (ho0.keep hB1) Hok.out bs (by omega) d1 c61).mono ?_
      rintro e w2 ⟨rfl, hb2⟩
      have hR : shortR 5 ps nd = lsideR 32 (shortF 5 nd ps) := HR.out
      rw [← hR]
      have hB2 := hB1.trans (hb2.mono hB1.size)
      clear HR hR
      go_wp2
      go_ret2
      exact ⟨rfl, hB2⟩
  · have hok' : needsB n ps nd = false := by simpa using hok
    have Hr := Lib.hid (short_none (shortO_no hok'))
    clear hok
    go_enter Try.func22, Try.ntmps22
    go_wp2_with fail
    generalize hW : World.alloc (World.alloc w _) _ = W2
    obtain rfl : wa = W2 := Hwa.out.1.trans hW
    obtain ⟨-, bxa, hBa, c6, hza⟩ := Hwa.out
    clear hW
    obtain ⟨bs, d0, d1, -, -⟩ := id bxa
    with_reducible refine (needsOk_any _ _ _ ps nd b b2 _ (hp0.keep hBa) (ho0.keep hBa)).mono ?_
    rintro e w1 ⟨rfl, hb1⟩
    rw [hok']
    go_wp2
    go_ret2
    exact ⟨ret_ib (by rw [Hr.out]), hBa.trans (hb1.mono hBa.size)⟩

end Go.Proofs.Ytenpplglanbooaa
