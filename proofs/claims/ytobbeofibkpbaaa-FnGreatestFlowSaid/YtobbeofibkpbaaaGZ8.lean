/- Plain facts. -/
import Derived.Test.YtobbeofibkpbaaaGZ7
import Derived.Test.YtobbeofibkpbaaaGZ55
import Derived.Test.YtobbeofibkpbaaaGZ23
import Derived.Test.YtobbeofibkpbaaaGZ39
/- Contracts of the functions of chapter 8 in the program: the stack, CarriesOf. -/
namespace Go.Proofs.Ytobbeofibkpbaaa
open Go.RowKit

set_option maxHeartbeats 400000 in
set_option maxRecDepth 20000 in
theorem carryPipe_any (k h p : Int) (w : World) :
    Calls Try.prog 95 #[.agg #[.int .i64 k, .int .i64 h, .int .i64 p]] w fun e w' => e = .returned (.int .i64 h) ∧ Below w.heap.size w w' := by
  go_enter Try.func95, Try.ntmps95
  go_wp2
  go_ret
  exact ⟨rfl, by (repeat (first | (with_reducible assumption) | (with_reducible exact Below.refl _ _) | ((with_reducible refine Below.alloc ?_ ?hsz _); (case hsz => (first | omega | (simp; done) | (simp; omega) | (simp at *; omega)))) | ((with_reducible refine Below.setCell ?_ ?hsz _); (case hsz => (first | omega | (simp; done) | (simp; omega) | (simp at *; omega)))) | (with_reducible refine Below.drew ?_) | (with_reducible refine below_drewN ?_ _) | ((with_reducible refine Below.trans ?_ (Below.mono (by with_reducible assumption) ?hsz)); (case hsz => (first | omega | (simp; done) | (simp; omega) | (simp at *; omega))))))⟩

set_option maxHeartbeats 400000 in
set_option maxRecDepth 20000 in
theorem carryJoin_any (s : Bool) (a b z : Int) (w : World) (ha : 0 ≤ a ∧ a ≤ 1000) (hb : 0 ≤ b ∧ b ≤ 1000) (hz : z = if s then a + b else min a b) :
    Calls Try.prog 96 #[.int .i64 (kindI s), .int .i64 a, .int .i64 b] w fun e w' => e = .returned (.int .i64 z) ∧ Below w.heap.size w w' := by
  subst hz
  cases s
  · have hk : kindI false = 1 := rfl
    rw [hk]
    clear hk
    by_cases hab : a ≤ b
    all_goals
      go_enter Try.func96, Try.ntmps96
      go_wp2
      go_ret
      exact ⟨ret_int (by show _ = min a b; omega), by (repeat (first | (with_reducible assumption) | (with_reducible exact Below.refl _ _) | ((with_reducible refine Below.alloc ?_ ?hsz _); (case hsz => (first | omega | (simp; done) | (simp; omega) | (simp at *; omega)))) | ((with_reducible refine Below.setCell ?_ ?hsz _); (case hsz => (first | omega | (simp; done) | (simp; omega) | (simp at *; omega)))) | (with_reducible refine Below.drew ?_) | (with_reducible refine below_drewN ?_ _) | ((with_reducible refine Below.trans ?_ (Below.mono (by with_reducible assumption) ?hsz)); (case hsz => (first | omega | (simp; done) | (simp; omega) | (simp at *; omega))))))⟩
  · have hk : kindI true = 2 := rfl
    rw [hk]
    clear hk
    go_enter Try.func96, Try.ntmps96
    go_wp2
    go_ret
    exact ⟨ret_int (by simp), by (repeat (first | (with_reducible assumption) | (with_reducible exact Below.refl _ _) | ((with_reducible refine Below.alloc ?_ ?hsz _); (case hsz => (first | omega | (simp; done) | (simp; omega) | (simp at *; omega)))) | ((with_reducible refine Below.setCell ?_ ?hsz _); (case hsz => (first | omega | (simp; done) | (simp; omega) | (simp at *; omega)))) | (with_reducible refine Below.drew ?_) | (with_reducible refine below_drewN ?_ _) | ((with_reducible refine Below.trans ?_ (Below.mono (by with_reducible assumption) ?hsz)); (case hsz => (first | omega | (simp; done) | (simp; omega) | (simp at *; omega))))))⟩

/-- what the operations yield -/
def bfV (W : World) (g M c1 mb : Nat) (s : Bool) (x1 x2 x3 : Int) (fv : Value) : Nat → Value → World → Prop
  | 0, x, _ => x = .slice (some ⟨g, 0, none⟩) (M + 2) c1
  | 1, x, _ => x = .int .i64 ((M : Int) + 2 - 1)
  | 2, x, _ => x = .int .i64 (M : Int)
  | 3, x, _ => x = fv
  | 4, x, _ => x = .pointer (some ⟨mb, 0, none⟩)
  | 5, x, _ => x = .int .i64 (kindI s)
  | 6, x, _ => x = .slice (some ⟨g, 0, none⟩) (M + 2) c1
  | 7, x, _ => x = .int .i64 ((M : Int) + 2 - 1)
  | 8, x, _ => x = .int .i64 (M : Int)
  | 9, x, _ => x = .pointer (some ⟨g, M, none⟩)
  | 10, x, _ => x = .int .i64 x1
  | 11, x, _ => x = .slice (some ⟨g, 0, none⟩) (M + 2) c1
  | 12, x, _ => x = .int .i64 ((M : Int) + 2 - 1)
  | 13, x, _ => x = .pointer (some ⟨g, M + 1, none⟩)
  | 14, x, _ => x = .int .i64 x2
  | 15, x, _ => x = .int .i64 x3
  | 16, x, _ => x = .pointer (some ⟨g, M, none⟩)
  | 17, x, w => x = x ∧ ∃ w', Below W.heap.size W w' ∧ w = w'.setCell ⟨g, M, none⟩ (.int .i64 x3)
  | _, _, _ => True

theorem own_fst {w : World} {b e size n m g cap : Nat} {xs : List Value} (h : w.ownsRow b e size (.slice (some ⟨g, 0, none⟩) n cap) n xs) (hm : m ≤ n) : w.ownsRow b e size (.slice (some ⟨g, 0, none⟩) m cap) m (xs.take (m * size)) := by
  obtain ⟨h1, h2⟩ := h
  have hle : m * size ≤ n * size := Nat.mul_le_mul_right _ hm
  rcases h2 with ⟨h, -⟩ | ⟨g', cap', cur, e1, h3, h4, h5, h6, h7, h8⟩
  · cases h
  · injection e1 with x1 x2 x3
    injection x1 with x1
    injection x1 with x1
    subst x1
    subst x3
    refine ⟨by rw [List.length_take, h1]; omega, .inr ⟨g, cap, cur, rfl, h3, h4, by omega, h6, h7, ?_⟩⟩
    rw [← h8, List.take_take, Nat.min_eq_left hle]

theorem own_at {w : World} {b e size n c : Nat} {A : Option Addr} {xs : List Value} (h : w.ownsRow b e size (.slice A n c) n xs) (hn : 0 < xs.length) :
    ∃ g, A = some ⟨g, 0, none⟩ ∧ b ≤ g ∧ g < w.heap.size ∧ n ≤ c ∧ c ≤ maxLen ∧ ∀ k u, xs[k]? = some u → w.cell? ⟨g, k, none⟩ = some u ∧ w.frozen? ⟨g, k, none⟩ = false := by
  obtain ⟨A', c', hv, h1, h2, h3⟩ := own_form h
  injection hv with e1 e2 e3
  subst e1
  subst e3
  obtain ⟨g, hA, hg, hg2, -, -⟩ := h3 0 _ (List.getElem?_eq_getElem hn)
  subst hA
  refine ⟨g, rfl, hg, hg2, h1, h2, fun k u hk => ?_⟩
  obtain ⟨g', hA', -, -, c0, c1⟩ := h3 k u hk
  injection hA' with e4
  injection e4 with e4
  subst e4
  exact ⟨c0, c1⟩

theorem front_two {f : Tm → Int} {a b c : Tm} {r : List Tm} {M : Nat} (hM : r.length = M) :
    ((((b :: a :: r).reverse.map f).map (Value.int .i64)).set M (.int .i64 (f c))).take ((M + 1) * 1) = ((c :: r).reverse.map f).map (Value.int .i64) := by
  subst hM
  have h1 : ((b :: a :: r).reverse.map f).map (Value.int .i64) = (r.reverse.map f).map (Value.int .i64) ++ [.int .i64 (f a), .int .i64 (f b)] := by simp
  have h2 : ((c :: r).reverse.map f).map (Value.int .i64) = (r.reverse.map f).map (Value.int .i64) ++ [.int .i64 (f c)] := by simp
  have h3 : ((r.reverse.map f).map (Value.int .i64)).length = r.length := by simp
  rw [h1, h2]
  generalize (r.reverse.map f).map (Value.int .i64) = l at *
  rw [← h3, List.set_append_right _ _ (Nat.le_refl _), Nat.sub_self, Nat.mul_one, List.take_append]
  simp
  exact List.take_of_length_le (by omega)

set_option maxHeartbeats 8000000 in
set_option maxRecDepth 20000 in
theorem builtInt_any (T : Tm) (hgd : T.good) (h7 : T.pipes ≤ 7) (v : Value) (w : World) (h : ArgMarks w v T.marks) :
    Calls Try.prog 94 #[v, .func (Fn.func 95) #[] #[], .func (Fn.func 96) #[] #[]] w fun e w' => e = .returned (.int .i64 T.carry) ∧ Below w.heap.size w w' := by
  obtain ⟨A, c, rfl, hc1, hc2, hcell⟩ := h
  unfold maxLen at hc2
  have h13 := T.len13 h7
  obtain ⟨i0, hi0, hz0, hz1, hz2⟩ := info_parts int_info
  have HE := Lib.hid (stack_end T hgd)
  have HA := Lib.hid (fun k hk => stack_all T hgd k hk)
  have HN := Lib.hid (fun k hk => stack_next T hgd k hk)
  obtain ⟨L, hL⟩ : ∃ L, T.marks.length = L := ⟨_, rfl⟩
  rw [hL] at hc1 h13 ⊢
  have HL := Lib.hid hL
  clear hL
  go_enter Try.func94, Try.ntmps94
  go_wp2
  go_loopw [13, 7] (fun i t wr => ∃ (k n c1 : Nat) (A1 : Option Addr), k ≤ L ∧ i = .int .i64 k ∧ t = .slice A1 n c1 ∧ (stackT T k).length = n ∧
      wr.ownsRow w.heap.size 3 1 (.slice A1 n c1) n (((stackT T k).reverse.map Tm.carry).map (Value.int .i64)) ∧ Below w.heap.size w wr) (fun i _ _ => L - (intOf i).toNat)
  case atStart => exact ⟨0, 0, 0, none, by omega, rfl, rfl, rfl, World.ownsRow_nil _ _ _ 1, by (repeat (first | (with_reducible assumption) | (with_reducible exact Below.refl _ _) | ((with_reducible refine Below.alloc ?_ ?hsz _); (case hsz => (first | omega | (simp; done) | (simp; omega) | (simp at *; omega)))) | ((with_reducible refine Below.setCell ?_ ?hsz _); (case hsz => (first | omega | (simp; done) | (simp; omega) | (simp at *; omega)))) | (with_reducible refine Below.drew ?_) | (with_reducible refine below_drewN ?_ _) | ((with_reducible refine Below.trans ?_ (Below.mono (by with_reducible assumption) ?hsz)); (case hsz => (first | omega | (simp; done) | (simp; omega) | (simp at *; omega))))))⟩
  case round =>
    obtain ⟨k, n, c1, A1, hk, rfl, rfl, hn, hown, hb⟩ := hrel
    obtain ⟨hcr, hfr, hzr⟩ := bcell hb
    have hkT : k ≤ T.marks.length := by have := HL.out; omega
    obtain ⟨hga, hgm, hgn⟩ := HA.out k hkT
    have hnk : n ≤ 13 := by omega
    by_cases hlt : k < L
    · have hltT : k < T.marks.length := by have := HL.out; omega
      obtain ⟨g, o, rfl, hg2, d0, d1, d2⟩ := hcell k hltT
      have hgr : g < wr.heap.size := by omega
      rcases HN.out k hltT with ⟨h, p, hm, hh, hp, hs⟩ | ⟨s, a, b, r, hm, hst, hs⟩
      · rw [hm] at d0 d1 d2
        have HS := Lib.hid hs
        have HM := Lib.hid hn
        clear hm hs hn
        go_wp2_with fail
        refine (carryPipe_any 0 h p _).mono ?_
        rintro e w2 ⟨rfl, hb2⟩
        have hown2 := own_keep hown (w' := w2) (Nat.le_refl _) (by (repeat (first | (with_reducible assumption) | (with_reducible exact Below.refl _ _) | ((with_reducible refine Below.alloc ?_ ?hsz _); (case hsz => (first | omega | (simp; done) | (simp; omega) | (simp at *; omega)))) | ((with_reducible refine Below.setCell ?_ ?hsz _); (case hsz => (first | omega | (simp; done) | (simp; omega) | (simp at *; omega)))) | (with_reducible refine Below.drew ?_) | (with_reducible refine below_drewN ?_ _) | ((with_reducible refine Below.trans ?_ (Below.mono (by with_reducible assumption) ?hsz)); (case hsz => (first | omega | (simp; done) | (simp; omega) | (simp at *; omega)))))))
        have hz2' := hb2.size
        simp at hz2'
        have hbw2 : Below w.heap.size w w2 := by (repeat (first | (with_reducible assumption) | (with_reducible exact Below.refl _ _) | ((with_reducible refine Below.alloc ?_ ?hsz _); (case hsz => (first | omega | (simp; done) | (simp; omega) | (simp at *; omega)))) | ((with_reducible refine Below.setCell ?_ ?hsz _); (case hsz => (first | omega | (simp; done) | (simp; omega) | (simp at *; omega)))) | (with_reducible refine Below.drew ?_) | (with_reducible refine below_drewN ?_ _) | ((with_reducible refine Below.trans ?_ (Below.mono (by with_reducible assumption) ?hsz)); (case hsz => (first | omega | (simp; done) | (simp; omega) | (simp at *; omega))))))
        have hrow : ∀ q, (Value.slice A1 n c1).ownBlock = some q → w.heap.size ≤ q := fun q hq => (hown.lt q hq).1
        clear hown hcr hfr hb hb2
        go_wp2_with (first
          | (at_builtin
             go_must (refine wpList_append_lies _ rfl _ _ 28 rfl w.heap.size 3 i0 _ 1 8 Try.underlying28 hi0 hz0 hz1 hz2 rfl (by omega) _ n _ rfl (hown2.alloc _) ⟨w2.heap.size, 0, none⟩ 1 1 [.int .i64 h] rfl rfl (World.news_of_block (cs := #[.int .i64 h]) (t := 3) (fr := (0, 0)) (heap_alloc_new _ _)) (by simp [Value.oneCell']) (by omega) (by unfold maxLen; omega) (by omega) (by simp; omega) _ rfl ?_)
             intro g2 k2 w7 hown7 hgr7 hat7 hlt7))
        have hb7 : Below w.heap.size w w7 := by
          refine Below.grown (w := w2.alloc (.cells #[.int .i64 h] 3)) (by (repeat (first | (with_reducible assumption) | (with_reducible exact Below.refl _ _) | ((with_reducible refine Below.alloc ?_ ?hsz _); (case hsz => (first | omega | (simp; done) | (simp; omega) | (simp at *; omega)))) | ((with_reducible refine Below.setCell ?_ ?hsz _); (case hsz => (first | omega | (simp; done) | (simp; omega) | (simp at *; omega)))) | (with_reducible refine Below.drew ?_) | (with_reducible refine below_drewN ?_ _) | ((with_reducible refine Below.trans ?_ (Below.mono (by with_reducible assumption) ?hsz)); (case hsz => (first | omega | (simp; done) | (simp; omega) | (simp at *; omega))))))) hgr7 (by (first | omega | (simp; done) | (simp; omega) | (simp at *; omega))) hrow
        have HO := Lib.hid hown7
        clear hown7 hgr7 hat7 hlt7
        go_roundw
        case rel => exact ⟨k + 1, n + 1, k2, some ⟨g2, 0, none⟩, by omega, by go_num, rfl, by rw [HS.out]; simp; exact HM.out, by rw [HS.out]; simpa [Tm.carry] using HO.out, hb7⟩
        case measure => simp [intOf]; omega
      · rw [hm] at d0 d1 d2
        have ha := a.carry_bd (hga a (by rw [hst]; simp))
        have hbd := b.carry_bd (hga b (by rw [hst]; simp))
        have ha7 := a.pipes_marks (hgm a (by rw [hst]; simp)) (by omega)
        have hb7' := b.pipes_marks (hgm b (by rw [hst]; simp)) (by omega)
        obtain ⟨M, hM⟩ : ∃ M, r.length = M := ⟨_, rfl⟩
        have hnM : n = M + 2 := by rw [← hn, hst]; simp; omega
        subst hnM
        have HX := Lib.hid (front_two (f := Tm.carry) (a := a) (b := b) (c := .two s a b) hM)
        rw [hst] at hown
        obtain ⟨gs, rfl, hgs1, hgs2, hcn, hcm, hc9⟩ := own_at hown (by simp)
        unfold maxLen at hcm
        obtain ⟨f0, f1⟩ := hc9 M (.int .i64 a.carry) (by subst hM; simp)
        obtain ⟨f2, -⟩ := hc9 (M + 1) (.int .i64 b.carry) (by subst hM; simp)
        have HS := Lib.hid hs
        have HM := Lib.hid hM
        have hk0 : (kindI s == 0) = false := by cases s <;> rfl
        clear hm hst hs hn hc9 hM
        obtain ⟨W7, hW7⟩ : ∃ W, W = wr.alloc (.cells #[.int .i64 (kindI s), .int .i64 0, .int .i64 0] 102) := ⟨_, rfl⟩
        have hbr : Below wr.heap.size wr W7 := by rw [hW7]; (repeat (first | (with_reducible assumption) | (with_reducible exact Below.refl _ _) | ((with_reducible refine Below.alloc ?_ ?hsz _); (case hsz => (first | omega | (simp; done) | (simp; omega) | (simp at *; omega)))) | ((with_reducible refine Below.setCell ?_ ?hsz _); (case hsz => (first | omega | (simp; done) | (simp; omega) | (simp at *; omega)))) | (with_reducible refine Below.drew ?_) | (with_reducible refine below_drewN ?_ _) | ((with_reducible refine Below.trans ?_ (Below.mono (by with_reducible assumption) ?hsz)); (case hsz => (first | omega | (simp; done) | (simp; omega) | (simp at *; omega))))))
        have hmb : wr.heap.size < W7.heap.size := by rw [hW7]; simp
        have hm0 : W7.cell? ⟨wr.heap.size, 0, none⟩ = some (.int .i64 (kindI s)) := by rw [hW7]; go_simp
        have hown7 := own_keep hown (Nat.le_refl _) hbr
        have hb7 : Below w.heap.size w W7 := hb.trans (hbr.mono hb.size)
        have hgl : gs < W7.heap.size := by omega
        have ha0 := (hbr.cell (p := ⟨gs, M, none⟩) hgs2).trans f0
        have hfz := (hbr.frozen (p := ⟨gs, M, none⟩) hgs2).trans f1
        have hb0 := (hbr.cell (p := ⟨gs, M + 1, none⟩) hgs2).trans f2
        clear hown hbr hb f0 f1 f2
        go_wp2_with fail
        rw [← hW7]
        clear hW7 hcr hfr
        refine wp_region_flowL 18 none [(0, 29), (1, 30), (2, 31), (3, 32), (4, 33), (5, 34), (6, 35), (7, 36), (8, 37), (9, 38), (10, 39), (11, 40), (12, 41), (13, 42), (14, 43), (15, 44), (16, 45)] (fun j x _ wx => bfV W7 gs M c1 wr.heap.size s a.carry b.carry (Tm.carry (.two s a b)) (.func (Fn.func 96) #[] #[]) j x wx) (fun _ _ _ => True) (fun f wx => 1 ≤ f → Below W7.heap.size W7 wx) (by kernel_rfl) (by kernel_rfl) rfl (fun _ => ⟨rfl, rfl, rfl, Nat.le_refl _, fun _ _ => rfl⟩) ?_ ?_ ?_ ?_
        · intro i k hi hk hal x u wa wb hR hV
          have hk' : k < 18 := hk
          by_cases n17 : k = 17
          · subst n17
            exfalso
            have hi' : i < 18 := hi
            rcases i with _ | _ | _ | _ | _ | _ | _ | _ | _ | _ | _ | _ | _ | _ | _ | _ | _ | _ | i
            all_goals (first | omega | (revert hal; decide))
          · rcases k with _ | _ | _ | _ | _ | _ | _ | _ | _ | _ | _ | _ | _ | _ | _ | _ | _ | _ | k
            all_goals first | exact hV | (exfalso; omega)
        · exact fun _ _ _ _ _ _ _ h => h
        · simp (maxSteps := 4000000) only [eachOp, fillF, List.setIfInBounds_toArray, List.set_cons_succ, List.set_cons_zero]
          refine ⟨?_, ?_, ?_, ?_, ?_, ?_, ?_, ?_, ?_, ?_, ?_, ?_, ?_, ?_, ?_, ?_, ?_, ?_, trivial⟩ <;> intro u f wx hC hd hf <;> (try simp [allV, useOf, Region.binds] at hd)
          · have hf1 : 1 ≤ f := Nat.le_trans (by decide) hf.1
            have hB := hC (by omega)
            clear hf
            have hBz := hB.size
            go_wp2
            first | exact ⟨_, rfl, rfl, trivial, fun _ => hB⟩ | exact ⟨_, rfl, rfl, trivial, hB⟩
          · have hf1 : 1 ≤ f := Nat.le_trans (by decide) hf.1
            have hB := hC (by omega)
            clear hf
            have hBz := hB.size
            go_wp2
            first | exact ⟨_, rfl, rfl, trivial, fun _ => hB⟩ | exact ⟨_, rfl, rfl, trivial, hB⟩
          · rw [show u 1 = _ from (by first | exact hd | exact hd.1 | exact hd.2 | exact hd.2.1 | exact hd.2.2 | exact hd.2.2.1 | exact hd.2.2.2 | exact hd.2.2.2.1 | exact hd.2.2.2.2)]
            have hf1 : 1 ≤ f := Nat.le_trans (by decide) hf.1
            have hB := hC (by omega)
            clear hf
            have hBz := hB.size
            have hw : IntKind.i64.wrap ((M : Int) + 2 - 1 - 1) = (M : Int) := by rw [IntWalk.i64_in _ (by omega)]; omega
            go_wp2
            first | exact ⟨_, rfl, rfl, trivial, fun _ => hB⟩ | exact ⟨_, rfl, rfl, trivial, hB⟩
          · have hf1 : 1 ≤ f := Nat.le_trans (by decide) hf.1
            have hB := hC (by omega)
            clear hf
            have hBz := hB.size
            go_wp2
            first | exact ⟨_, rfl, rfl, trivial, fun _ => hB⟩ | exact ⟨_, rfl, rfl, trivial, hB⟩
          · have hf1 : 1 ≤ f := Nat.le_trans (by decide) hf.1
            have hB := hC (by omega)
            clear hf
            have hBz := hB.size
            go_wp2
            first | exact ⟨_, rfl, rfl, trivial, fun _ => hB⟩ | exact ⟨_, rfl, rfl, trivial, hB⟩
          · rw [show u 4 = _ from (by first | exact hd | exact hd.1 | exact hd.2 | exact hd.2.1 | exact hd.2.2 | exact hd.2.2.1 | exact hd.2.2.2 | exact hd.2.2.2.1 | exact hd.2.2.2.2)]
            have hf1 : 1 ≤ f := Nat.le_trans (by decide) hf.1
            have hB := hC (by omega)
            clear hf
            have hBz := hB.size
            have e0 := (hB.cell (p := ⟨wr.heap.size, 0, none⟩) hmb).trans hm0
            go_wp2
            first | exact ⟨_, rfl, rfl, trivial, fun _ => hB⟩ | exact ⟨_, rfl, rfl, trivial, hB⟩
          · have hf1 : 1 ≤ f := Nat.le_trans (by decide) hf.1
            have hB := hC (by omega)
            clear hf
            have hBz := hB.size
            go_wp2
            first | exact ⟨_, rfl, rfl, trivial, fun _ => hB⟩ | exact ⟨_, rfl, rfl, trivial, hB⟩
          · have hf1 : 1 ≤ f := Nat.le_trans (by decide) hf.1
            have hB := hC (by omega)
            clear hf
            have hBz := hB.size
            go_wp2
            first | exact ⟨_, rfl, rfl, trivial, fun _ => hB⟩ | exact ⟨_, rfl, rfl, trivial, hB⟩
          · rw [show u 7 = _ from (by first | exact hd | exact hd.1 | exact hd.2 | exact hd.2.1 | exact hd.2.2 | exact hd.2.2.1 | exact hd.2.2.2 | exact hd.2.2.2.1 | exact hd.2.2.2.2)]
            have hf1 : 1 ≤ f := Nat.le_trans (by decide) hf.1
            have hB := hC (by omega)
            clear hf
            have hBz := hB.size
            have hw : IntKind.i64.wrap ((M : Int) + 2 - 1 - 1) = (M : Int) := by rw [IntWalk.i64_in _ (by omega)]; omega
            go_wp2
            first | exact ⟨_, rfl, rfl, trivial, fun _ => hB⟩ | exact ⟨_, rfl, rfl, trivial, hB⟩
          · rw [show u 6 = _ from (by first | exact hd | exact hd.1 | exact hd.2 | exact hd.2.1 | exact hd.2.2 | exact hd.2.2.1 | exact hd.2.2.2 | exact hd.2.2.2.1 | exact hd.2.2.2.2), show u 8 = _ from (by first | exact hd | exact hd.1 | exact hd.2 | exact hd.2.1 | exact hd.2.2 | exact hd.2.2.1 | exact hd.2.2.2 | exact hd.2.2.2.1 | exact hd.2.2.2.2)]
            have hf1 : 1 ≤ f := Nat.le_trans (by decide) hf.1
            have hB := hC (by omega)
            clear hf
            have hBz := hB.size
            go_wp2
            first | exact ⟨_, rfl, rfl, trivial, fun _ => hB⟩ | exact ⟨_, rfl, rfl, trivial, hB⟩
          · rw [show u 9 = _ from (by first | exact hd | exact hd.1 | exact hd.2 | exact hd.2.1 | exact hd.2.2 | exact hd.2.2.1 | exact hd.2.2.2 | exact hd.2.2.2.1 | exact hd.2.2.2.2)]
            have hf1 : 1 ≤ f := Nat.le_trans (by decide) hf.1
            have hB := hC (by omega)
            clear hf
            have hBz := hB.size
            have e0 := (hB.cell (p := ⟨gs, M, none⟩) hgl).trans ha0
            go_wp2
            first | exact ⟨_, rfl, rfl, trivial, fun _ => hB⟩ | exact ⟨_, rfl, rfl, trivial, hB⟩
          · have hf1 : 1 ≤ f := Nat.le_trans (by decide) hf.1
            have hB := hC (by omega)
            clear hf
            have hBz := hB.size
            go_wp2
            first | exact ⟨_, rfl, rfl, trivial, fun _ => hB⟩ | exact ⟨_, rfl, rfl, trivial, hB⟩
          · have hf1 : 1 ≤ f := Nat.le_trans (by decide) hf.1
            have hB := hC (by omega)
            clear hf
            have hBz := hB.size
            go_wp2
            first | exact ⟨_, rfl, rfl, trivial, fun _ => hB⟩ | exact ⟨_, rfl, rfl, trivial, hB⟩
          · rw [show u 11 = _ from (by first | exact hd | exact hd.1 | exact hd.2 | exact hd.2.1 | exact hd.2.2 | exact hd.2.2.1 | exact hd.2.2.2 | exact hd.2.2.2.1 | exact hd.2.2.2.2), show u 12 = _ from (by first | exact hd | exact hd.1 | exact hd.2 | exact hd.2.1 | exact hd.2.2 | exact hd.2.2.1 | exact hd.2.2.2 | exact hd.2.2.2.1 | exact hd.2.2.2.2)]
            have hf1 : 1 ≤ f := Nat.le_trans (by decide) hf.1
            have hB := hC (by omega)
            clear hf
            have hBz := hB.size
            go_wp2
            first | exact ⟨_, rfl, rfl, trivial, fun _ => hB⟩ | exact ⟨_, rfl, rfl, trivial, hB⟩
          · rw [show u 13 = _ from (by first | exact hd | exact hd.1 | exact hd.2 | exact hd.2.1 | exact hd.2.2 | exact hd.2.2.1 | exact hd.2.2.2 | exact hd.2.2.2.1 | exact hd.2.2.2.2)]
            have hf1 : 1 ≤ f := Nat.le_trans (by decide) hf.1
            have hB := hC (by omega)
            clear hf
            have hBz := hB.size
            have e0 := (hB.cell (p := ⟨gs, M + 1, none⟩) hgl).trans hb0
            go_wp2
            first | exact ⟨_, rfl, rfl, trivial, fun _ => hB⟩ | exact ⟨_, rfl, rfl, trivial, hB⟩
          · rw [show u 3 = _ from (by first | exact hd | exact hd.1 | exact hd.2 | exact hd.2.1 | exact hd.2.2 | exact hd.2.2.1 | exact hd.2.2.2 | exact hd.2.2.2.1 | exact hd.2.2.2.2), show u 5 = _ from (by first | exact hd | exact hd.1 | exact hd.2 | exact hd.2.1 | exact hd.2.2 | exact hd.2.2.1 | exact hd.2.2.2 | exact hd.2.2.2.1 | exact hd.2.2.2.2), show u 10 = _ from (by first | exact hd | exact hd.1 | exact hd.2 | exact hd.2.1 | exact hd.2.2 | exact hd.2.2.1 | exact hd.2.2.2 | exact hd.2.2.2.1 | exact hd.2.2.2.2), show u 14 = _ from (by first | exact hd | exact hd.1 | exact hd.2 | exact hd.2.1 | exact hd.2.2 | exact hd.2.2.1 | exact hd.2.2.2 | exact hd.2.2.2.1 | exact hd.2.2.2.2)]
            have hf1 : 1 ≤ f := Nat.le_trans (by decide) hf.1
            have hB := hC (by omega)
            clear hf
            have hBz := hB.size
            go_wp2_with fail
            refine (carryJoin_any s a.carry b.carry (Tm.carry (.two s a b)) _ (by omega) (by omega) rfl).mono ?_
            rintro e wy ⟨rfl, hby⟩
            go_wp2
            first | exact ⟨_, rfl, rfl, trivial, fun _ => hB.trans (hby.mono hBz)⟩ | exact ⟨_, rfl, rfl, trivial, hB.trans (hby.mono hBz)⟩
          · rw [show u 0 = _ from (by first | exact hd | exact hd.1 | exact hd.2 | exact hd.2.1 | exact hd.2.2 | exact hd.2.2.1 | exact hd.2.2.2 | exact hd.2.2.2.1 | exact hd.2.2.2.2), show u 2 = _ from (by first | exact hd | exact hd.1 | exact hd.2 | exact hd.2.1 | exact hd.2.2 | exact hd.2.2.1 | exact hd.2.2.2 | exact hd.2.2.2.1 | exact hd.2.2.2.2)]
            have hf1 : 1 ≤ f := Nat.le_trans (by decide) hf.1
            have hB := hC (by omega)
            clear hf
            have hBz := hB.size
            go_wp2
            first | exact ⟨_, rfl, rfl, trivial, fun _ => hB⟩ | exact ⟨_, rfl, rfl, trivial, hB⟩
          · rw [show u 16 = _ from (by first | exact hd | exact hd.1 | exact hd.2 | exact hd.2.1 | exact hd.2.2 | exact hd.2.2.1 | exact hd.2.2.2 | exact hd.2.2.2.1 | exact hd.2.2.2.2), show u 15 = _ from (by first | exact hd | exact hd.1 | exact hd.2 | exact hd.2.1 | exact hd.2.2 | exact hd.2.2.1 | exact hd.2.2.2 | exact hd.2.2.2.1 | exact hd.2.2.2.2)]
            have hf2 := hf.2
            have hB := hC (by omega)
            clear hf
            have hBz := hB.size
            have e0 := (hB.cell (p := ⟨gs, M, none⟩) hgl).trans ha0
            have e1 := (hB.frozen (p := ⟨gs, M, none⟩) hgl).trans hfz
            have hgx : gs < wx.heap.size := by omega
            go_wp2
            exact ⟨undef, rfl, ⟨rfl, _, hB, rfl⟩, trivial, fun h => absurd h (by have := Nat.le_trans hf2 (by decide : _ ≤ 0); omega)⟩
        · intro u f wx hC hfin
          simp only [fillEnd, fillF, Act.put, List.setIfInBounds_toArray, List.set_cons_succ, List.set_cons_zero]
          obtain ⟨-, w9, hb9, hw9⟩ := hfin 17 (by decide) (by decide)
          subst hw9
          clear hfin hC
          have hown9 := (own_keep hown7 (Nat.le_refl _) hb9).stored M (.int .i64 (Tm.carry (.two s a b)))
          have hz9 := hb9.size
          have hown10 := own_fst hown9.1 (m := M + 1) (by omega)
          have hb10 : Below w.heap.size w (w9.setCell ⟨gs, M, none⟩ (.int .i64 (Tm.carry (.two s a b)))) := by
            have : Below w.heap.size w w9 := hb7.trans (hb9.mono (by omega))
            exact this.setCell (by omega) _
          have HF := Lib.hid (And.intro hown10 hb10)
          clear hown9 hown10 hb10 hb9
          go_wp2
          go_roundw
          case rel =>
            refine ⟨k + 1, M + 1, c1, some ⟨gs, 0, none⟩, by omega, by go_num, rfl, by rw [HS.out]; simp; exact HM.out, ?_, HF.out.2⟩
            rw [HS.out]
            have h := HF.out.1
            have hx := HX.out
            rw [hx] at h
            exact h
          case measure => simp [intOf]; omega
    · have hk2 : k = L := by omega
      subst hk2
      have hE : stackT T k = [T] := by rw [← HL.out]; exact HE.out
      have hn1 : n = 1 := by rw [← hn, hE]; rfl
      subst hn1
      rw [hE] at hown
      obtain ⟨A9, c9, hv9, -, -, hc9⟩ := own_form hown
      injection hv9 with e1 e2 e3
      subst e1
      obtain ⟨g, rfl, hg1, hg2, f0, f1⟩ := hc9 0 (.int .i64 T.carry) (by simp)
      clear hown hc9 hn hE
      go_wp2
      go_ret
      exact ⟨rfl, by (repeat (first | (with_reducible assumption) | (with_reducible exact Below.refl _ _) | ((with_reducible refine Below.alloc ?_ ?hsz _); (case hsz => (first | omega | (simp; done) | (simp; omega) | (simp at *; omega)))) | ((with_reducible refine Below.setCell ?_ ?hsz _); (case hsz => (first | omega | (simp; done) | (simp; omega) | (simp at *; omega)))) | (with_reducible refine Below.drew ?_) | (with_reducible refine below_drewN ?_ _) | ((with_reducible refine Below.trans ?_ (Below.mono (by with_reducible assumption) ?hsz)); (case hsz => (first | omega | (simp; done) | (simp; omega) | (simp at *; omega))))))⟩

end Go.Proofs.Ytobbeofibkpbaaa

/- A stack of parts, each of two cells, in a row of its own. -/
namespace Go.Proofs.Ytobbeofibkpbaaa
open Go.RowKit

/-- what is asked of the relation between a part and its two cells -/
structure PairOk (ty : TypeId) (R : World → Nat → Value → Value → Tm → Prop) : Prop where
  keep : ∀ {w w' : World} {b : Nat} {x y : Value} {U : Tm}, R w b x y U → Below w.heap.size w w' → R w' b x y U
  mono : ∀ {w : World} {b b' : Nat} {x y : Value} {U : Tm}, R w b x y U → b' ≤ b → R w b' x y U
  oth : ∀ {w w' : World} {b b2 n : Nat} {x y u : Value} {vs : List Value} {U : Tm}, R w b x y U → w.ownsRow b2 ty 2 u n vs → w.grownBy w' u.ownBlock → R w' b x y U

def pairC (c : Value × Value) : List Value := [c.1, c.2]
def StkP (ty : TypeId) (R : World → Nat → Value → Value → Tm → Prop) (w : World) (b : Nat) (v : Value) (n : Nat) (Ts : List Tm) : Prop :=
  ∃ cs : List (Value × Value), cs.length = Ts.length ∧ Ts.length = n ∧ w.ownsRow b ty 2 v n (cs.flatMap pairC) ∧ ∀ k (h : k < Ts.length) (h' : k < cs.length), R w b cs[k].1 cs[k].2 Ts[k]

theorem pair_len (cs : List (Value × Value)) : (cs.flatMap pairC).length = cs.length * 2 := by
  induction cs with
  | nil => rfl
  | cons c cs ih => rw [List.flatMap_cons, List.length_append, ih]; simp [pairC]; omega
theorem pair_at (cs : List (Value × Value)) (k : Nat) (hk : k < cs.length) : (cs.flatMap pairC)[k * 2]? = some cs[k].1 ∧ (cs.flatMap pairC)[k * 2 + 1]? = some cs[k].2 := by
  induction cs generalizing k with
  | nil => simp at hk
  | cons c cs ih =>
    cases k with
    | zero => simp [List.flatMap_cons, pairC]
    | succ k =>
      have h := ih k (by simpa using hk)
      have e : (k + 1) * 2 = k * 2 + 2 := by omega
      rw [e, List.flatMap_cons]
      simpa [pairC] using h
theorem pair_set (cs : List (Value × Value)) (k : Nat) (hk : k < cs.length) (x y : Value) : ((cs.flatMap pairC).set (k * 2) x).set (k * 2 + 1) y = (cs.set k (x, y)).flatMap pairC := by
  induction cs generalizing k with
  | nil => simp at hk
  | cons c cs ih =>
    cases k with
    | zero => simp [List.flatMap_cons, pairC]
    | succ k =>
      have h := ih k (by simpa using hk)
      have e : (k + 1) * 2 = k * 2 + 2 := by omega
      rw [e, List.set_cons_succ, List.flatMap_cons, List.flatMap_cons, ← h]
      simp [pairC]
theorem pair_take (cs : List (Value × Value)) (k : Nat) : (cs.flatMap pairC).take (k * 2) = (cs.take k).flatMap pairC := by
  induction cs generalizing k with
  | nil => simp
  | cons c cs ih =>
    cases k with
    | zero => simp
    | succ k =>
      have e : (k + 1) * 2 = k * 2 + 2 := by omega
      rw [e, List.take_succ_cons, List.flatMap_cons, List.flatMap_cons, ← ih]
      simp [pairC]

section
variable {ty : TypeId} {R : World → Nat → Value → Value → Tm → Prop} (ok : PairOk ty R)
include ok
theorem StkP.keep {w w' : World} {b n : Nat} {v : Value} {Ts : List Tm} (h : StkP ty R w b v n Ts) (hb : Below w.heap.size w w') : StkP ty R w' b v n Ts := by
  obtain ⟨cs, h1, h2, h3, h4⟩ := h
  exact ⟨cs, h1, h2, own_keep h3 (Nat.le_refl _) hb, fun k hk hk' => ok.keep (h4 k hk hk') hb⟩
theorem StkP.top {w : World} {b g c M : Nat} {x y : Value} {Ts : List Tm} {U : Tm} (h : StkP ty R w b (.slice (some ⟨g, 0, none⟩) (M + 2) c) (M + 2) Ts) (hs : R w b x y U) :
    StkP ty R ((w.setCell ⟨g, M * 2, none⟩ x).setCell ⟨g, M * 2 + 1, none⟩ y) b (.slice (some ⟨g, 0, none⟩) (M + 1) c) (M + 1) (Ts.take M ++ [U]) := by
  obtain ⟨cs, h1, h2, h3, h4⟩ := h
  have hv : M < cs.length := by omega
  have hs1 := h3.stored (M * 2) x
  have hs2 := hs1.1.stored (M * 2 + 1) y
  rw [pair_set cs M hv x y] at hs2
  have hg : w.grownBy ((w.setCell ⟨g, M * 2, none⟩ x).setCell ⟨g, M * 2 + 1, none⟩ y) (Value.slice (some ⟨g, 0, none⟩) (M + 2) c).ownBlock := hs1.2.trans hs2.2
  have hf := own_fst hs2.1 (m := M + 1) (by omega)
  rw [pair_take] at hf
  have e : (cs.set M (x, y)).take (M + 1) = cs.take M ++ [(x, y)] := by
    rw [List.take_succ_eq_append_getElem (by simp; exact hv)]
    simp [List.take_set]
    exact List.set_eq_of_length_le (by simp; omega)
  rw [e] at hf
  have hl : (cs.take M ++ [(x, y)]).length = M + 1 := by simp; omega
  have hl2 : (Ts.take M ++ [U]).length = M + 1 := by simp; omega
  refine ⟨_, by rw [hl, hl2], hl2, hf, fun k hk hk' => ?_⟩
  by_cases hkM : k < M
  · have e1 : (cs.take M ++ [(x, y)])[k] = cs[k]'(by omega) := by rw [List.getElem_append_left (by simp; omega)]; simp
    have e2 : (Ts.take M ++ [U])[k] = Ts[k]'(by omega) := by rw [List.getElem_append_left (by simp; omega)]; simp
    rw [e1, e2]
    exact ok.oth (h4 k (by omega) (by omega)) h3 hg
  · have hkM : k = M := by omega
    subst hkM
    have e1 : (cs.take k ++ [(x, y)])[k] = (x, y) := by rw [List.getElem_append_right (by simp; omega)]; simp
    have e2 : (Ts.take k ++ [U])[k] = U := by rw [List.getElem_append_right (by simp; omega)]; simp
    rw [e1, e2]
    exact ok.oth hs h3 hg
theorem StkP.snoc {w w7 : World} {b n : Nat} {v u x y : Value} {cs : List (Value × Value)} {Ts : List Tm} {U : Tm} (h1 : cs.length = Ts.length) (h2 : Ts.length = n) (h3 : w.ownsRow b ty 2 v n (cs.flatMap pairC))
    (h4 : ∀ k (h : k < Ts.length) (h' : k < cs.length), R w b cs[k].1 cs[k].2 Ts[k]) (hr : R w b x y U) (hg : w.grownBy w7 v.ownBlock) (ho : w7.ownsRow b ty 2 u (n + 1) (cs.flatMap pairC ++ [x, y])) : StkP ty R w7 b u (n + 1) (Ts ++ [U]) := by
  refine ⟨cs ++ [(x, y)], by simp [h1], by simp [h2], by rw [List.flatMap_append]; exact ho, fun k hk hk' => ?_⟩
  by_cases hlt : k < Ts.length
  · have e1 : (cs ++ [(x, y)])[k] = cs[k]'(by omega) := List.getElem_append_left (by omega)
    have e2 : (Ts ++ [U])[k] = Ts[k] := List.getElem_append_left hlt
    rw [e1, e2]
    exact ok.oth (h4 k hlt (by omega)) h3 hg
  · have hkl : k = Ts.length := by simp at hk; omega
    subst hkl
    have e1 : (cs ++ [(x, y)])[Ts.length] = (x, y) := by simp [← h1]
    have e2 : (Ts ++ [U])[Ts.length] = U := by simp
    rw [e1, e2]
    exact ok.oth hr h3 hg
end

/-- a row lies in another block than one of another type -/
theorem own_oth {w w' : World} {b b2 n m s s' : Nat} {e ty : TypeId} {v u : Value} {xs vs : List Value} (h : w.ownsRow b e s v n xs) (hne : e ≠ ty) (ho : w.ownsRow b2 ty s' u m vs) (hg : w.grownBy w' u.ownBlock) : w'.ownsRow b e s v n xs := by
  refine h.kept hg ?_
  rcases h.2 with ⟨h0, -⟩ | ⟨g1, c1, cur1, h0, -, hh, -⟩
  · left; rw [h0]; rfl
  · right
    rcases ho.2 with ⟨h2, -⟩ | ⟨g2, c2, cur2, h2, -, hh2, -⟩
    · rw [h0, h2]; intro e; cases e
    · rw [h0, h2]
      intro e
      have e : g1 = g2 := by injection e
      subst e
      rw [hh] at hh2
      injection hh2 with e2
      injection e2 with _ e3 _
      exact hne e3

theorem Tm.thens_lt (T : Tm) : T.thens + 1 ≤ T.pipes := by
  induction T with
  | pipe => simp [Tm.thens, Tm.pipes]
  | two s a b iha ihb => cases s <;> simp [Tm.thens, Tm.pipes] <;> omega

end Go.Proofs.Ytobbeofibkpbaaa
