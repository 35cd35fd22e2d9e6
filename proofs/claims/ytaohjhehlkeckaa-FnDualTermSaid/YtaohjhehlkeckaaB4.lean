/- Contracts of the functions of chapter 9: LengthOf of the program. -/
import Derived.Test.YtaohjhehlkeckaaB1
import Derived.Test.YtaohjhehlkeckaaAR
namespace Go.Proofs.Ytaohjhehlkeckaa
open Go.RowKit

set_option maxHeartbeats 400000 in
set_option maxRecDepth 20000 in
theorem longPipe_any (k h p : Int) (w : World) :
    Calls Try.prog 46 #[.agg #[.int .i64 k, .int .i64 h, .int .i64 p]] w fun e w' => e = .returned (.int .i64 h) ∧ Below w.heap.size w w' := by
  go_enter Try.func46, Try.ntmps46
  go_wp2
  go_ret
  exact ⟨rfl, by (repeat (first | (with_reducible assumption) | (with_reducible exact Below.refl _ _) | ((with_reducible refine Below.alloc ?_ ?hsz _); (case hsz => (first | omega | (simp; done) | (simp; omega) | (simp at *; omega)))) | ((with_reducible refine Below.setCell ?_ ?hsz _); (case hsz => (first | omega | (simp; done) | (simp; omega) | (simp at *; omega)))) | (with_reducible refine Below.drew ?_) | (with_reducible refine below_drewN ?_ _) | ((with_reducible refine Below.trans ?_ (Below.mono (by with_reducible assumption) ?hsz)); (case hsz => (first | omega | (simp; done) | (simp; omega) | (simp at *; omega))))))⟩

set_option maxHeartbeats 400000 in
set_option maxRecDepth 20000 in
theorem longJoin_any (s : Bool) (a b z : Int) (w : World) (ha : 0 ≤ a ∧ a ≤ 1000) (hb : 0 ≤ b ∧ b ≤ 1000) (hz : z = if s then min a b else a + b) :
    Calls Try.prog 47 #[.int .i64 (kindI s), .int .i64 a, .int .i64 b] w fun e w' => e = .returned (.int .i64 z) ∧ Below w.heap.size w w' := by
  subst hz
  cases s
  · have hk : kindI false = 1 := rfl
    rw [hk]
    clear hk
    go_enter Try.func47, Try.ntmps47
    go_wp2
    go_ret
    exact ⟨ret_int (by simp), by (repeat (first | (with_reducible assumption) | (with_reducible exact Below.refl _ _) | ((with_reducible refine Below.alloc ?_ ?hsz _); (case hsz => (first | omega | (simp; done) | (simp; omega) | (simp at *; omega)))) | ((with_reducible refine Below.setCell ?_ ?hsz _); (case hsz => (first | omega | (simp; done) | (simp; omega) | (simp at *; omega)))) | (with_reducible refine Below.drew ?_) | (with_reducible refine below_drewN ?_ _) | ((with_reducible refine Below.trans ?_ (Below.mono (by with_reducible assumption) ?hsz)); (case hsz => (first | omega | (simp; done) | (simp; omega) | (simp at *; omega))))))⟩
  · have hk : kindI true = 2 := rfl
    rw [hk]
    clear hk
    by_cases hab : a ≤ b
    all_goals
      go_enter Try.func47, Try.ntmps47
      go_wp2
      go_ret
      exact ⟨ret_int (by show _ = min a b; omega), by (repeat (first | (with_reducible assumption) | (with_reducible exact Below.refl _ _) | ((with_reducible refine Below.alloc ?_ ?hsz _); (case hsz => (first | omega | (simp; done) | (simp; omega) | (simp at *; omega)))) | ((with_reducible refine Below.setCell ?_ ?hsz _); (case hsz => (first | omega | (simp; done) | (simp; omega) | (simp at *; omega)))) | (with_reducible refine Below.drew ?_) | (with_reducible refine below_drewN ?_ _) | ((with_reducible refine Below.trans ?_ (Below.mono (by with_reducible assumption) ?hsz)); (case hsz => (first | omega | (simp; done) | (simp; omega) | (simp at *; omega))))))⟩

set_option maxHeartbeats 8000000 in
set_option maxRecDepth 20000 in
theorem builtLong_any (T : Tm) (hgd : T.good) (h7 : T.pipes ≤ 7) (v : Value) (w : World) (h : ArgMarks w v T.marks) :
    Calls Try.prog 45 #[v, .func (Fn.func 46) #[] #[], .func (Fn.func 47) #[] #[]] w fun e w' => e = .returned (.int .i64 T.long) ∧ Below w.heap.size w w' := by
  obtain ⟨A, c, rfl, hc1, hc2, hcell⟩ := h
  unfold maxLen at hc2
  have h13 := T.len13 h7
  obtain ⟨i0, hi0, hz0, hz1, hz2⟩ := info_parts int_info
  have HE := Lib.hid (stack_end T hgd)
  have HA := Lib.hid (fun k hk => stack_all T hgd k hk)
  have HN := Lib.hid (fun k hk => stack_next T hgd k hk)
  obtain ⟨L, hL⟩ : ∃ L, T.marks.length = L := ⟨_, rfl⟩
  rw [hL] at hc1 h13 ⊢
  have HL := Lib.hid hL
  clear hL
  go_enter Try.func45, Try.ntmps45
  go_wp2
  go_loopw [13, 7] (fun i t wr => ∃ (k n c1 : Nat) (A1 : Option Addr), k ≤ L ∧ i = .int .i64 k ∧ t = .slice A1 n c1 ∧ (stackT T k).length = n ∧
      wr.ownsRow w.heap.size 3 1 (.slice A1 n c1) n (((stackT T k).reverse.map Tm.long).map (Value.int .i64)) ∧ Below w.heap.size w wr) (fun i _ _ => L - (intOf i).toNat)
  case atStart => exact ⟨0, 0, 0, none, by omega, rfl, rfl, rfl, World.ownsRow_nil _ _ _ 1, by (repeat (first | (with_reducible assumption) | (with_reducible exact Below.refl _ _) | ((with_reducible refine Below.alloc ?_ ?hsz _); (case hsz => (first | omega | (simp; done) | (simp; omega) | (simp at *; omega)))) | ((with_reducible refine Below.setCell ?_ ?hsz _); (case hsz => (first | omega | (simp; done) | (simp; omega) | (simp at *; omega)))) | (with_reducible refine Below.drew ?_) | (with_reducible refine below_drewN ?_ _) | ((with_reducible refine Below.trans ?_ (Below.mono (by with_reducible assumption) ?hsz)); (case hsz => (first | omega | (simp; done) | (simp; omega) | (simp at *; omega))))))⟩
  case round =>
    obtain ⟨k, n, c1, A1, hk, rfl, rfl, hn, hown, hb⟩ := hrel
    obtain ⟨hcr, hfr, hzr⟩ := bcell hb
    have hkT : k ≤ T.marks.length := by have := HL.out; omega
    obtain ⟨hga, hgm, hgn⟩ := HA.out k hkT
    have hnk : n ≤ 13 := by omega
    by_cases hlt : k < L
    · have hltT : k < T.marks.length := by have := HL.out; omega
      obtain ⟨g, o, rfl, hg2, d0, d1, d2⟩ := hcell k hltT
      have hgr : g < wr.heap.size := by omega
      rcases HN.out k hltT with ⟨h, p, hm, hh, hp, hs⟩ | ⟨s, a, b, r, hm, hst, hs⟩
      · rw [hm] at d0 d1 d2
        have HS := Lib.hid hs
        have HM := Lib.hid hn
        clear hm hs hn
        go_wp2_with fail
        refine (longPipe_any 0 h p _).mono ?_
        rintro e w2 ⟨rfl, hb2⟩
        have hown2 := own_keep hown (w' := w2) (Nat.le_refl _) (by (repeat (first | (with_reducible assumption) | (with_reducible exact Below.refl _ _) | ((with_reducible refine Below.alloc ?_ ?hsz _); (case hsz => (first | omega | (simp; done) | (simp; omega) | (simp at *; omega)))) | ((with_reducible refine Below.setCell ?_ ?hsz _); (case hsz => (first | omega | (simp; done) | (simp; omega) | (simp at *; omega)))) | (with_reducible refine Below.drew ?_) | (with_reducible refine below_drewN ?_ _) | ((with_reducible refine Below.trans ?_ (Below.mono (by with_reducible assumption) ?hsz)); (case hsz => (first | omega | (simp; done) | (simp; omega) | (simp at *; omega)))))))
        have hz2' := hb2.size
        simp at hz2'
        have hbw2 : Below w.heap.size w w2 := by (repeat (first | (with_reducible assumption) | (with_reducible exact Below.refl _ _) | ((with_reducible refine Below.alloc ?_ ?hsz _); (case hsz => (first | omega | (simp; done) | (simp; omega) | (simp at *; omega)))) | ((with_reducible refine Below.setCell ?_ ?hsz _); (case hsz => (first | omega | (simp; done) | (simp; omega) | (simp at *; omega)))) | (with_reducible refine Below.drew ?_) | (with_reducible refine below_drewN ?_ _) | ((with_reducible refine Below.trans ?_ (Below.mono (by with_reducible assumption) ?hsz)); (case hsz => (first | omega | (simp; done) | (simp; omega) | (simp at *; omega))))))
        have hrow : ∀ q, (Value.slice A1 n c1).ownBlock = some q → w.heap.size ≤ q := fun q hq => (hown.lt q hq).1
        clear hown hcr hfr hb hb2
        go_wp2_with (first
          | (at_builtin
             go_must (refine wpList_append_lies _ rfl _ _ 34 rfl w.heap.size 3 i0 _ 1 8 Try.underlying34 hi0 hz0 hz1 hz2 rfl (by omega) _ n _ rfl (hown2.alloc _) ⟨w2.heap.size, 0, none⟩ 1 1 [.int .i64 h] rfl rfl (World.news_of_block (cs := #[.int .i64 h]) (t := 3) (fr := (0, 0)) (heap_alloc_new _ _)) (by simp [Value.oneCell']) (by omega) (by unfold maxLen; omega) (by omega) (by simp; omega) _ rfl ?_)
             intro g2 k2 w7 hown7 hgr7 hat7 hlt7))
        have hb7 : Below w.heap.size w w7 := by
          refine Below.grown (w := w2.alloc (.cells #[.int .i64 h] 3)) (by (repeat (first | (with_reducible assumption) | (with_reducible exact Below.refl _ _) | ((with_reducible refine Below.alloc ?_ ?hsz _); (case hsz => (first | omega | (simp; done) | (simp; omega) | (simp at *; omega)))) | ((with_reducible refine Below.setCell ?_ ?hsz _); (case hsz => (first | omega | (simp; done) | (simp; omega) | (simp at *; omega)))) | (with_reducible refine Below.drew ?_) | (with_reducible refine below_drewN ?_ _) | ((with_reducible refine Below.trans ?_ (Below.mono (by with_reducible assumption) ?hsz)); (case hsz => (first | omega | (simp; done) | (simp; omega) | (simp at *; omega))))))) hgr7 (by (first | omega | (simp; done) | (simp; omega) | (simp at *; omega))) hrow
        have HO := Lib.hid hown7
        clear hown7 hgr7 hat7 hlt7
        go_roundw
        case rel => exact ⟨k + 1, n + 1, k2, some ⟨g2, 0, none⟩, by omega, by go_num, rfl, by rw [HS.out]; simp; exact HM.out, by rw [HS.out]; simpa [Tm.long] using HO.out, hb7⟩
        case measure => simp [intOf]; omega
      · rw [hm] at d0 d1 d2
        have ha := a.long_bd (hga a (by rw [hst]; simp))
        have hbd := b.long_bd (hga b (by rw [hst]; simp))
        have ha7 := a.pipes_marks (hgm a (by rw [hst]; simp)) (by omega)
        have hb7' := b.pipes_marks (hgm b (by rw [hst]; simp)) (by omega)
        obtain ⟨M, hM⟩ : ∃ M, r.length = M := ⟨_, rfl⟩
        have hnM : n = M + 2 := by rw [← hn, hst]; simp; omega
        subst hnM
        have HX := Lib.hid (front_two (f := Tm.long) (a := a) (b := b) (c := .two s a b) hM)
        rw [hst] at hown
        obtain ⟨gs, rfl, hgs1, hgs2, hcn, hcm, hc9⟩ := own_at hown (by simp)
        unfold maxLen at hcm
        obtain ⟨f0, f1⟩ := hc9 M (.int .i64 a.long) (by subst hM; simp)
        obtain ⟨f2, -⟩ := hc9 (M + 1) (.int .i64 b.long) (by subst hM; simp)
        have HS := Lib.hid hs
        have HM := Lib.hid hM
        have hk0 : (kindI s == 0) = false := by cases s <;> rfl
        clear hm hst hs hn hc9 hM
        obtain ⟨W7, hW7⟩ : ∃ W, W = wr.alloc (.cells #[.int .i64 (kindI s), .int .i64 0, .int .i64 0] 33) := ⟨_, rfl⟩
        have hbr : Below wr.heap.size wr W7 := by rw [hW7]; (repeat (first | (with_reducible assumption) | (with_reducible exact Below.refl _ _) | ((with_reducible refine Below.alloc ?_ ?hsz _); (case hsz => (first | omega | (simp; done) | (simp; omega) | (simp at *; omega)))) | ((with_reducible refine Below.setCell ?_ ?hsz _); (case hsz => (first | omega | (simp; done) | (simp; omega) | (simp at *; omega)))) | (with_reducible refine Below.drew ?_) | (with_reducible refine below_drewN ?_ _) | ((with_reducible refine Below.trans ?_ (Below.mono (by with_reducible assumption) ?hsz)); (case hsz => (first | omega | (simp; done) | (simp; omega) | (simp at *; omega))))))
        have hmb : wr.heap.size < W7.heap.size := by rw [hW7]; simp
        have hm0 : W7.cell? ⟨wr.heap.size, 0, none⟩ = some (.int .i64 (kindI s)) := by rw [hW7]; go_simp
        have hown7 := own_keep hown (Nat.le_refl _) hbr
        have hb7 : Below w.heap.size w W7 := hb.trans (hbr.mono hb.size)
        have hgl : gs < W7.heap.size := by omega
        have ha0 := (hbr.cell (p := ⟨gs, M, none⟩) hgs2).trans f0
        have hfz := (hbr.frozen (p := ⟨gs, M, none⟩) hgs2).trans f1
        have hb0 := (hbr.cell (p := ⟨gs, M + 1, none⟩) hgs2).trans f2
        clear hown hbr hb f0 f1 f2
        go_wp2_with fail
        rw [← hW7]
        clear hW7 hcr hfr
        refine wp_region_flowL 18 none [(0, 29), (1, 30), (2, 31), (3, 32), (4, 33), (5, 34), (6, 35), (7, 36), (8, 37), (9, 38), (10, 39), (11, 40), (12, 41), (13, 42), (14, 43), (15, 44), (16, 45)] (fun j x _ wx => bfV W7 gs M c1 wr.heap.size s a.long b.long (Tm.long (.two s a b)) (.func (Fn.func 47) #[] #[]) j x wx) (fun _ _ _ => True) (fun f wx => 1 ≤ f → Below W7.heap.size W7 wx) (by kernel_rfl) (by kernel_rfl) rfl (fun _ => ⟨rfl, rfl, rfl, Nat.le_refl _, fun _ _ => rfl⟩) ?_ ?_ ?_ ?_
        · intro i k hi hk hal x u wa wb hR hV
          have hk' : k < 18 := hk
          by_cases n17 : k = 17
          · subst n17
            exfalso
            have hi' : i < 18 := hi
            rcases i with _ | _ | _ | _ | _ | _ | _ | _ | _ | _ | _ | _ | _ | _ | _ | _ | _ | _ | i
            all_goals (first | omega | (revert hal; decide))
          · rcases k with _ | _ | _ | _ | _ | _ | _ | _ | _ | _ | _ | _ | _ | _ | _ | _ | _ | _ | k
            all_goals first | exact hV | (exfalso; omega)
        · exact fun _ _ _ _ _ _ _ h => h
        · simp (maxSteps := 4000000) only [eachOp, fillF, List.setIfInBounds_toArray, List.set_cons_succ, List.set_cons_zero]
          refine ⟨?_, ?_, ?_, ?_, ?_, ?_, ?_, ?_, ?_, ?_, ?_, ?_, ?_, ?_, ?_, ?_, ?_, ?_, trivial⟩ <;> intro u f wx hC hd hf <;> (try simp [allV, useOf, Region.binds] at hd)
          · have hf1 : 1 ≤ f := Nat.le_trans (by decide) hf.1
            have hB := hC (by omega)
            clear hf
            have hBz := hB.size
            go_wp2
            first | exact ⟨_, rfl, rfl, trivial, fun _ => hB⟩ | exact ⟨_, rfl, rfl, trivial, hB⟩
          · have hf1 : 1 ≤ f := Nat.le_trans (by decide) hf.1
            have hB := hC (by omega)
            clear hf
            have hBz := hB.size
            go_wp2
            first | exact ⟨_, rfl, rfl, trivial, fun _ => hB⟩ | exact ⟨_, rfl, rfl, trivial, hB⟩
          · rw [show u 1 = _ from (by first | exact hd | exact hd.1 | exact hd.2 | exact hd.2.1 | exact hd.2.2 | exact hd.2.2.1 | exact hd.2.2.2 | exact hd.2.2.2.1 | exact hd.2.2.2.2)]
            have hf1 : 1 ≤ f := Nat.le_trans (by decide) hf.1
            have hB := hC (by omega)
            clear hf
            have hBz := hB.size
            have hw : IntKind.i64.wrap ((M : Int) + 2 - 1 - 1) = (M : Int) := by rw [IntWalk.i64_in _ (by omega)]; omega
            go_wp2
            first | exact ⟨_, rfl, rfl, trivial, fun _ => hB⟩ | exact ⟨_, rfl, rfl, trivial, hB⟩
          · have hf1 : 1 ≤ f := Nat.le_trans (by decide) hf.1
            have hB := hC (by omega)
            clear hf
            have hBz := hB.size
            go_wp2
            first | exact ⟨_, rfl, rfl, trivial, fun _ => hB⟩ | exact ⟨_, rfl, rfl, trivial, hB⟩
          · have hf1 : 1 ≤ f := Nat.le_trans (by decide) hf.1
            have hB := hC (by omega)
            clear hf
            have hBz := hB.size
            go_wp2
            first | exact ⟨_, rfl, rfl, trivial, fun _ => hB⟩ | exact ⟨_, rfl, rfl, trivial, hB⟩
          · rw [show u 4 = _ from (by first | exact hd | exact hd.1 | exact hd.2 | exact hd.2.1 | exact hd.2.2 | exact hd.2.2.1 | exact hd.2.2.2 | exact hd.2.2.2.1 | exact hd.2.2.2.2)]
            have hf1 : 1 ≤ f := Nat.le_trans (by decide) hf.1
            have hB := hC (by omega)
            clear hf
            have hBz := hB.size
            have e0 := (hB.cell (p := ⟨wr.heap.size, 0, none⟩) hmb).trans hm0
            go_wp2
            first | exact ⟨_, rfl, rfl, trivial, fun _ => hB⟩ | exact ⟨_, rfl, rfl, trivial, hB⟩
          · have hf1 : 1 ≤ f := Nat.le_trans (by decide) hf.1
            have hB := hC (by omega)
            clear hf
            have hBz := hB.size
            go_wp2
            first | exact ⟨_, rfl, rfl, trivial, fun _ => hB⟩ | exact ⟨_, rfl, rfl, trivial, hB⟩
          · have hf1 : 1 ≤ f := Nat.le_trans (by decide) hf.1
            have hB := hC (by omega)
            clear hf
            have hBz := hB.size
            go_wp2
            first | exact ⟨_, rfl, rfl, trivial, fun _ => hB⟩ | exact ⟨_, rfl, rfl, trivial, hB⟩
          · rw [show u 7 = _ from (by first | exact hd | exact hd.1 | exact hd.2 | exact hd.2.1 | exact hd.2.2 | exact hd.2.2.1 | exact hd.2.2.2 | exact hd.2.2.2.1 | exact hd.2.2.2.2)]
            have hf1 : 1 ≤ f := Nat.le_trans (by decide) hf.1
            have hB := hC (by omega)
            clear hf
            have hBz := hB.size
            have hw : IntKind.i64.wrap ((M : Int) + 2 - 1 - 1) = (M : Int) := by rw [IntWalk.i64_in _ (by omega)]; omega
            go_wp2
            first | exact ⟨_, rfl, rfl, trivial, fun _ => hB⟩ | exact ⟨_, rfl, rfl, trivial, hB⟩
          · rw [show u 6 = _ from (by first | exact hd | exact hd.1 | exact hd.2 | exact hd.2.1 | exact hd.2.2 | exact hd.2.2.1 | exact hd.2.2.2 | exact hd.2.2.2.1 | exact hd.2.2.2.2), show u 8 = _ from (by first | exact hd | exact hd.1 | exact hd.2 | exact hd.2.1 | exact hd.2.2 | exact hd.2.2.1 | exact hd.2.2.2 | exact hd.2.2.2.1 | exact hd.2.2.2.2)]
            have hf1 : 1 ≤ f := Nat.le_trans (by decide) hf.1
            have hB := hC (by omega)
            clear hf
            have hBz := hB.size
            go_wp2
            first | exact ⟨_, rfl, rfl, trivial, fun _ => hB⟩ | exact ⟨_, rfl, rfl, trivial, hB⟩
          · rw [show u 9 = _ from (by first | exact hd | exact hd.1 | exact hd.2 | exact hd.2.1 | exact hd.2.2 | exact hd.2.2.1 | exact hd.2.2.2 | exact hd.2.2.2.1 | exact hd.2.2.2.2)]
            have hf1 : 1 ≤ f := Nat.le_trans (by decide) hf.1
            have hB := hC (by omega)
            clear hf
            have hBz := hB.size
            have e0 := (hB.cell (p := ⟨gs, M, none⟩) hgl).trans ha0
            go_wp2
            first | exact ⟨_, rfl, rfl, trivial, fun _ => hB⟩ | exact ⟨_, rfl, rfl, trivial, hB⟩
          · have hf1 : 1 ≤ f := Nat.le_trans (by decide) hf.1
            have hB := hC (by omega)
            clear hf
            have hBz := hB.size
            go_wp2
            first | exact ⟨_, rfl, rfl, trivial, fun _ => hB⟩ | exact ⟨_, rfl, rfl, trivial, hB⟩
          · have hf1 : 1 ≤ f := Nat.le_trans (by decide) hf.1
            have hB := hC (by omega)
            clear hf
            have hBz := hB.size
            go_wp2
            first | exact ⟨_, rfl, rfl, trivial, fun _ => hB⟩ | exact ⟨_, rfl, rfl, trivial, hB⟩
          · rw [show u 11 = _ from (by first | exact hd | exact hd.1 | exact hd.2 | exact hd.2.1 | exact hd.2.2 | exact hd.2.2.1 | exact hd.2.2.2 | exact hd.2.2.2.1 | exact hd.2.2.2.2), show u 12 = _ from (by first | exact hd | exact hd.1 | exact hd.2 | exact hd.2.1 | exact hd.2.2 | exact hd.2.2.1 | exact hd.2.2.2 | exact hd.2.2.2.1 | exact hd.2.2.2.2)]
            have hf1 : 1 ≤ f := Nat.le_trans (by decide) hf.1
            have hB := hC (by omega)
            clear hf
            have hBz := hB.size
            go_wp2
            first | exact ⟨_, rfl, rfl, trivial, fun _ => hB⟩ | exact ⟨_, rfl, rfl, trivial, hB⟩
          · rw [show u 13 = _ from (by first | exact hd | exact hd.1 | exact hd.2 | exact hd.2.1 | exact hd.2.2 | exact hd.2.2.1 | exact hd.2.2.2 | exact hd.2.2.2.1 | exact hd.2.2.2.2)]
            have hf1 : 1 ≤ f := Nat.le_trans (by decide) hf.1
            have hB := hC (by omega)
            clear hf
            have hBz := hB.size
            have e0 := (hB.cell (p := ⟨gs, M + 1, none⟩) hgl).trans hb0
            go_wp2
            first | exact ⟨_, rfl, rfl, trivial, fun _ => hB⟩ | exact ⟨_, rfl, rfl, trivial, hB⟩
          · rw [show u 3 = _ from (by first | exact hd | exact hd.1 | exact hd.2 | exact hd.2.1 | exact hd.2.2 | exact hd.2.2.1 | exact hd.2.2.2 | exact hd.2.2.2.1 | exact hd.2.2.2.2), show u 5 = _ from (by first | exact hd | exact hd.1 | exact hd.2 | exact hd.2.1 | exact hd.2.2 | exact hd.2.2.1 | exact hd.2.2.2 | exact hd.2.2.2.1 | exact hd.2.2.2.2), show u 10 = _ from (by first | exact hd | exact hd.1 | exact hd.2 | exact hd.2.1 | exact hd.2.2 | exact hd.2.2.1 | exact hd.2.2.2 | exact hd.2.2.2.1 | exact hd.2.2.2.2), show u 14 = _ from (by first | exact hd | exact hd.1 | exact hd.2 | exact hd.2.1 | exact hd.2.2 | exact hd.2.2.1 | exact hd.2.2.2 | exact hd.2.2.2.1 | exact hd.2.2.2.2)]
            have hf1 : 1 ≤ f := Nat.le_trans (by decide) hf.1
            have hB := hC (by omega)
            clear hf
            have hBz := hB.size
            go_wp2_with fail
            refine (longJoin_any s a.long b.long (Tm.long (.two s a b)) _ (by omega) (by omega) rfl).mono ?_
            rintro e wy ⟨rfl, hby⟩
            go_wp2
            first | exact ⟨_, rfl, rfl, trivial, fun _ => hB.trans (hby.mono hBz)⟩ | exact ⟨_, rfl, rfl, trivial, hB.trans (hby.mono hBz)⟩
          · rw [show u 0 = _ from (by first | exact hd | exact hd.1 | exact hd.2 | exact hd.2.1 | exact hd.2.2 | exact hd.2.2.1 | exact hd.2.2.2 | exact hd.2.2.2.1 | exact hd.2.2.2.2), show u 2 = _ from (by first | exact hd | exact hd.1 | exact hd.2 | exact hd.2.1 | exact hd.2.2 | exact hd.2.2.1 | exact hd.2.2.2 | exact hd.2.2.2.1 | exact hd.2.2.2.2)]
            have hf1 : 1 ≤ f := Nat.le_trans (by decide) hf.1
            have hB := hC (by omega)
            clear hf
            have hBz := hB.size
            go_wp2
            first | exact ⟨_, rfl, rfl, trivial, fun _ => hB⟩ | exact ⟨_, rfl, rfl, trivial, hB⟩
          · rw [show u 16 = _ from (by first | exact hd | exact hd.1 | exact hd.2 | exact hd.2.1 | exact hd.2.2 | exact hd.2.2.1 | exact hd.2.2.2 | exact hd.2.2.2.1 | exact hd.2.2.2.2), show u 15 = _ from (by first | exact hd | exact hd.1 | exact hd.2 | exact hd.2.1 | exact hd.2.2 | exact hd.2.2.1 | exact hd.2.2.2 | exact hd.2.2.2.1 | exact hd.2.2.2.2)]
            have hf2 := hf.2
            have hB := hC (by omega)
            clear hf
            have hBz := hB.size
            have e0 := (hB.cell (p := ⟨gs, M, none⟩) hgl).trans ha0
            have e1 := (hB.frozen (p := ⟨gs, M, none⟩) hgl).trans hfz
            have hgx : gs < wx.heap.size := by omega
            go_wp2
            exact ⟨undef, rfl, ⟨rfl, _, hB, rfl⟩, trivial, fun h => absurd h (by have := Nat.le_trans hf2 (by decide : _ ≤ 0); omega)⟩
        · intro u f wx hC hfin
          simp only [fillEnd, fillF, Act.put, List.setIfInBounds_toArray, List.set_cons_succ, List.set_cons_zero]
          obtain ⟨-, w9, hb9, hw9⟩ := hfin 17 (by decide) (by decide)
          subst hw9
          clear hfin hC
          have hown9 := (own_keep hown7 (Nat.le_refl _) hb9).stored M (.int .i64 (Tm.long (.two s a b)))
          have hz9 := hb9.size
          have hown10 := own_fst hown9.1 (m := M + 1) (by omega)
          have hb10 : Below w.heap.size w (w9.setCell ⟨gs, M, none⟩ (.int .i64 (Tm.long (.two s a b)))) := by
            have : Below w.heap.size w w9 := hb7.trans (hb9.mono (by omega))
            exact this.setCell (by omega) _
          have HF := Lib.hid (And.intro hown10 hb10)
          clear hown9 hown10 hb10 hb9
          go_wp2
          go_roundw
          case rel =>
            refine ⟨k + 1, M + 1, c1, some ⟨gs, 0, none⟩, by omega, by go_num, rfl, by rw [HS.out]; simp; exact HM.out, ?_, HF.out.2⟩
            rw [HS.out]
            have h := HF.out.1
            have hx := HX.out
            rw [hx] at h
            exact h
          case measure => simp [intOf]; omega
    · have hk2 : k = L := by omega
      subst hk2
      have hE : stackT T k = [T] := by rw [← HL.out]; exact HE.out
      have hn1 : n = 1 := by rw [← hn, hE]; rfl
      subst hn1
      rw [hE] at hown
      obtain ⟨A9, c9, hv9, -, -, hc9⟩ := own_form hown
      injection hv9 with e1 e2 e3
      subst e1
      obtain ⟨g, rfl, hg1, hg2, f0, f1⟩ := hc9 0 (.int .i64 T.long) (by simp)
      clear hown hc9 hn hE
      go_wp2
      go_ret
      exact ⟨rfl, by (repeat (first | (with_reducible assumption) | (with_reducible exact Below.refl _ _) | ((with_reducible refine Below.alloc ?_ ?hsz _); (case hsz => (first | omega | (simp; done) | (simp; omega) | (simp at *; omega)))) | ((with_reducible refine Below.setCell ?_ ?hsz _); (case hsz => (first | omega | (simp; done) | (simp; omega) | (simp at *; omega)))) | (with_reducible refine Below.drew ?_) | (with_reducible refine below_drewN ?_ _) | ((with_reducible refine Below.trans ?_ (Below.mono (by with_reducible assumption) ?hsz)); (case hsz => (first | omega | (simp; done) | (simp; omega) | (simp at *; omega))))))⟩


set_option maxHeartbeats 1000000 in
set_option maxRecDepth 20000 in
theorem lengthOf_any (v : Value) (ts : List Mk) (b : Nat) (w : World) (h : Marks w b v ts) :
    Calls Try.prog 16 #[v] w fun e w' => e = .returned (.int .i64 (longN ts)) ∧ Below w.heap.size w w' := by
  obtain ⟨A, c, rfl, hc1, hc2, -, -⟩ := h.form
  unfold maxLen at hc2
  cases ht : termB ts
  · have HR := Lib.hid (show longN ts = -1 by simp [longN, ht])
    go_enter Try.func16, Try.ntmps16
    go_wp2_with (first
      | (go_at_call 15; ((with_reducible refine (termOk_any _ ts b _ (h.keep (by (repeat (first | (with_reducible assumption) | (with_reducible exact Below.refl _ _) | ((with_reducible refine Below.alloc ?_ ?hsz _); (case hsz => (first | omega | (simp; done) | (simp; omega) | (simp at *; omega)))) | ((with_reducible refine Below.setCell ?_ ?hsz _); (case hsz => (first | omega | (simp; done) | (simp; omega) | (simp at *; omega)))) | (with_reducible refine Below.drew ?_) | (with_reducible refine below_drewN ?_ _) | ((with_reducible refine Below.trans ?_ (Below.mono (by with_reducible assumption) ?hsz)); (case hsz => (first | omega | (simp; done) | (simp; omega) | (simp at *; omega))))))))).mono ?_); rintro e w1 ⟨rfl, hb1⟩; obtain ⟨hc1, hf1, hz1⟩ := bcell hb1; (try simp at hz1); (try have hy1 : w.heap.size < w1.heap.size := by omega); (try have hy2 : w.heap.size + 1 < w1.heap.size := by omega); (try have hy3 : w.heap.size + 1 + 1 < w1.heap.size := by omega))))
    go_ret
    exact ⟨ret_int HR.out.symm, by (repeat (first | (with_reducible assumption) | (with_reducible exact Below.refl _ _) | ((with_reducible refine Below.alloc ?_ ?hsz _); (case hsz => (first | omega | (simp; done) | (simp; omega) | (simp at *; omega)))) | ((with_reducible refine Below.setCell ?_ ?hsz _); (case hsz => (first | omega | (simp; done) | (simp; omega) | (simp at *; omega)))) | (with_reducible refine Below.drew ?_) | (with_reducible refine below_drewN ?_ _) | ((with_reducible refine Below.trans ?_ (Below.mono (by with_reducible assumption) ?hsz)); (case hsz => (first | omega | (simp; done) | (simp; omega) | (simp at *; omega))))))⟩
  · obtain ⟨hT, hg, h7, -⟩ := term_of ht
    have HR := Lib.hid (show longN ts = (tmOf ts).long by simp [longN, ht])
    have HT := Lib.hid (And.intro hT (And.intro hg h7))
    clear hT hg h7
    go_enter Try.func16, Try.ntmps16
    go_wp2_with fail
    refine (termOk_any _ ts b _ (h.keep (by (repeat (first | (with_reducible assumption) | (with_reducible exact Below.refl _ _) | ((with_reducible refine Below.alloc ?_ ?hsz _); (case hsz => (first | omega | (simp; done) | (simp; omega) | (simp at *; omega)))) | ((with_reducible refine Below.setCell ?_ ?hsz _); (case hsz => (first | omega | (simp; done) | (simp; omega) | (simp at *; omega)))) | (with_reducible refine Below.drew ?_) | (with_reducible refine below_drewN ?_ _) | ((with_reducible refine Below.trans ?_ (Below.mono (by with_reducible assumption) ?hsz)); (case hsz => (first | omega | (simp; done) | (simp; omega) | (simp at *; omega))))))))).mono ?_
    rintro e w1 ⟨rfl, hb1⟩
    rw [ht]
    have hA := h.arg.keep (w' := w1) (by (repeat (first | (with_reducible assumption) | (with_reducible exact Below.refl _ _) | ((with_reducible refine Below.alloc ?_ ?hsz _); (case hsz => (first | omega | (simp; done) | (simp; omega) | (simp at *; omega)))) | ((with_reducible refine Below.setCell ?_ ?hsz _); (case hsz => (first | omega | (simp; done) | (simp; omega) | (simp at *; omega)))) | (with_reducible refine Below.drew ?_) | (with_reducible refine below_drewN ?_ _) | ((with_reducible refine Below.trans ?_ (Below.mono (by with_reducible assumption) ?hsz)); (case hsz => (first | omega | (simp; done) | (simp; omega) | (simp at *; omega)))))))
    have hA2 : ArgMarks w1 (.slice A ts.length c) (tmOf ts).marks := by rw [← HT.out.1]; exact hA
    have hB1 : Below w.heap.size w w1 := by (repeat (first | (with_reducible assumption) | (with_reducible exact Below.refl _ _) | ((with_reducible refine Below.alloc ?_ ?hsz _); (case hsz => (first | omega | (simp; done) | (simp; omega) | (simp at *; omega)))) | ((with_reducible refine Below.setCell ?_ ?hsz _); (case hsz => (first | omega | (simp; done) | (simp; omega) | (simp at *; omega)))) | (with_reducible refine Below.drew ?_) | (with_reducible refine below_drewN ?_ _) | ((with_reducible refine Below.trans ?_ (Below.mono (by with_reducible assumption) ?hsz)); (case hsz => (first | omega | (simp; done) | (simp; omega) | (simp at *; omega))))))
    have HA := Lib.hid hA2
    clear hA hA2
    go_wp2_with fail
    refine (builtLong_any (tmOf ts) HT.out.2.1 HT.out.2.2 _ _ (HA.out.keep (by (repeat (first | (with_reducible assumption) | (with_reducible exact Below.refl _ _) | ((with_reducible refine Below.alloc ?_ ?hsz _); (case hsz => (first | omega | (simp; done) | (simp; omega) | (simp at *; omega)))) | ((with_reducible refine Below.setCell ?_ ?hsz _); (case hsz => (first | omega | (simp; done) | (simp; omega) | (simp at *; omega)))) | (with_reducible refine Below.drew ?_) | (with_reducible refine below_drewN ?_ _) | ((with_reducible refine Below.trans ?_ (Below.mono (by with_reducible assumption) ?hsz)); (case hsz => (first | omega | (simp; done) | (simp; omega) | (simp at *; omega))))))))).mono ?_
    rintro e w2 ⟨rfl, hb2⟩
    have hz1 := hB1.size
    go_wp2
    go_ret
    exact ⟨ret_int HR.out.symm, by (repeat (first | (with_reducible assumption) | (with_reducible exact Below.refl _ _) | ((with_reducible refine Below.alloc ?_ ?hsz _); (case hsz => (first | omega | (simp; done) | (simp; omega) | (simp at *; omega)))) | ((with_reducible refine Below.setCell ?_ ?hsz _); (case hsz => (first | omega | (simp; done) | (simp; omega) | (simp at *; omega)))) | (with_reducible refine Below.drew ?_) | (with_reducible refine below_drewN ?_ _) | ((with_reducible refine Below.trans ?_ (Below.mono (by with_reducible assumption) ?hsz)); (case hsz => (first | omega | (simp; done) | (simp; omega) | (simp at *; omega))))))⟩

end Go.Proofs.Ytaohjhehlkeckaa
