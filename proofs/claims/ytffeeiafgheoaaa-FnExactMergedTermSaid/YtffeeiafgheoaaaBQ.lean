/- Contracts of the functions of chapter 9 in the program: the stack of rows of marks, MergedTerm. -/
import Derived.Test.YtffeeiafgheoaaaBP
import Derived.Test.YtffeeiafgheoaaaAR
namespace Go.Proofs.Ytffeeiafgheoaaa
open Go.RowKit

def mg (U : Tm) : List Mk := U.merged.marks

set_option maxHeartbeats 400000 in
set_option maxRecDepth 20000 in
theorem rPipe_any (k h p : Int) (w : World) :
    Calls Try.prog 69 #[.agg #[.int .i64 k, .int .i64 h, .int .i64 p]] w fun e w' => ∃ r, e = .returned r ∧ Marks w' w.heap.size r [⟨k, h, p⟩] ∧ Below w.heap.size w w' := by
  go_enter Try.func69, Try.ntmps69
  go_wp2
  go_ret
  have hown := World.ownsRow_lit (e := 51) (base := w.heap.size) (size := 3) (w.alloc (.cells #[.int .i64 k, .int .i64 h, .int .i64 p] 51)) #[.int .i64 k, .int .i64 h, .int .i64 p] 1 (by simp) (by simp [maxLen]) rfl
  rw [World.size_alloc] at hown
  exact ⟨_, rfl, ⟨hown, by simp [small]⟩, by (repeat (first | (with_reducible assumption) | (with_reducible exact Below.refl _ _) | ((with_reducible refine Below.alloc ?_ ?hsz _); (case hsz => (first | omega | (simp; done) | (simp; omega) | (simp at *; omega)))) | ((with_reducible refine Below.setCell ?_ ?hsz _); (case hsz => (first | omega | (simp; done) | (simp; omega) | (simp at *; omega)))) | (with_reducible refine Below.drew ?_) | (with_reducible refine below_drewN ?_ _) | ((with_reducible refine Below.trans ?_ (Below.mono (by with_reducible assumption) ?hsz)); (case hsz => (first | omega | (simp; done) | (simp; omega) | (simp at *; omega))))))⟩

theorem StkM.top {w : World} {b g c M : Nat} {s : Value} {Ls : List (List Mk)} {L : List Mk} (h : StkM w b (.slice (some ⟨g, 0, none⟩) (M + 2) c) (M + 2) Ls) (hM : Ls.length = M + 2) (hs : Marks w b s L) :
    StkM (w.setCell ⟨g, M, none⟩ s) b (.slice (some ⟨g, 0, none⟩) (M + 1) c) (M + 1) (Ls.take M ++ [L]) := by
  obtain ⟨vs, h1, h2, h3, h4⟩ := h
  have hst := h3.stored M s
  have hf := own_fst hst.1 (m := M + 1) (by omega)
  have e : (vs.set M s).take ((M + 1) * 1) = vs.take M ++ [s] := by
    have hv : M < vs.length := by omega
    rw [Nat.mul_one, List.take_succ_eq_append_getElem (by simp; exact hv)]
    simp [List.take_set]
    exact List.set_eq_of_length_le (by simp; omega)
  rw [e] at hf
  have hl : (vs.take M ++ [s]).length = M + 1 := by simp; omega
  have hl2 : (Ls.take M ++ [L]).length = M + 1 := by simp; omega
  refine ⟨_, by rw [hl, hl2], hl2, hf, fun k hk hk' => ?_⟩
  by_cases hkM : k < M
  · have e1 : (vs.take M ++ [s])[k] = vs[k]'(by omega) := by rw [List.getElem_append_left (by simp; omega)]; simp
    have e2 : (Ls.take M ++ [L])[k] = Ls[k]'(by omega) := by rw [List.getElem_append_left (by simp; omega)]; simp
    rw [e1, e2]
    exact (h4 k (by omega) (by omega)).oth h3 hst.2
  · have hkM : k = M := by omega
    subst hkM
    have e1 : (vs.take k ++ [s])[k] = s := by rw [List.getElem_append_right (by simp; omega)]; simp
    have e2 : (Ls.take k ++ [L])[k] = L := by rw [List.getElem_append_right (by simp; omega)]; simp
    rw [e1, e2]
    exact hs.oth h3 hst.2

/-- what the operations yield -/
def bqV (W : World) (B g M c1 mb : Nat) (s : Bool) (v1 v2 : Value) (L3 : List Mk) (fv : Value) : Nat → Value → World → Prop
  | 0, x, _ => x = .slice (some ⟨g, 0, none⟩) (M + 2) c1
  | 1, x, _ => x = .int .i64 ((M : Int) + 2 - 1)
  | 2, x, _ => x = .int .i64 (M : Int)
  | 3, x, _ => x = fv
  | 4, x, _ => x = .pointer (some ⟨mb, 0, none⟩)
  | 5, x, _ => x = .int .i64 (kindI s)
  | 6, x, _ => x = .slice (some ⟨g, 0, none⟩) (M + 2) c1
  | 7, x, _ => x = .int .i64 ((M : Int) + 2 - 1)
  | 8, x, _ => x = .int .i64 (M : Int)
  | 9, x, _ => x = .pointer (some ⟨g, M, none⟩)
  | 10, x, _ => x = v1
  | 11, x, _ => x = .slice (some ⟨g, 0, none⟩) (M + 2) c1
  | 12, x, _ => x = .int .i64 ((M : Int) + 2 - 1)
  | 13, x, _ => x = .pointer (some ⟨g, M + 1, none⟩)
  | 14, x, _ => x = v2
  | 15, x, w => ∃ s, x = s ∧ Marks w B s L3
  | 16, x, _ => x = .pointer (some ⟨g, M, none⟩)
  | 17, x, w => x = x ∧ ∃ w' s, Below W.heap.size W w' ∧ Marks w' B s L3 ∧ w = w'.setCell ⟨g, M, none⟩ s
  | _, _, _ => True

set_option maxHeartbeats 8000000 in
set_option maxRecDepth 20000 in
theorem builtMerged_any (T : Tm) (hgd : T.good) (h7 : T.pipes ≤ 7) (v : Value) (w : World) (h : ArgMarks w v T.marks) :
    Calls Try.prog 68 #[v, .func (Fn.func 69) #[] #[], .func (Fn.func 57) #[] #[]] w fun e w' => ∃ r, e = .returned r ∧ Marks w' w.heap.size r (mg T) ∧ Below w.heap.size w w' := by
  obtain ⟨A, c, rfl, hc1, hc2, hcell⟩ := h
  unfold maxLen at hc2
  have h13 := T.len13 h7
  obtain ⟨i0, hi0, hz0, hz1, hz2⟩ := info_parts marks_info2
  have HE := Lib.hid (stack_end T hgd)
  have HA := Lib.hid (fun k hk => stack_all T hgd k hk)
  have HN := Lib.hid (fun k hk => stack_next T hgd k hk)
  obtain ⟨L, hL⟩ : ∃ L, T.marks.length = L := ⟨_, rfl⟩
  rw [hL] at hc1 h13 ⊢
  have HL := Lib.hid hL
  clear hL
  go_enter Try.func68, Try.ntmps68
  go_wp2
  go_loopw [13, 7] (fun i t wr => ∃ (k n c1 : Nat) (A1 : Option Addr), k ≤ L ∧ i = .int .i64 k ∧ t = .slice A1 n c1 ∧ (stackT T k).length = n ∧
      StkM wr w.heap.size (.slice A1 n c1) n ((stackT T k).reverse.map mg) ∧ Below w.heap.size w wr) (fun i _ _ => L - (intOf i).toNat)
  case atStart => exact ⟨0, 0, 0, none, by omega, rfl, rfl, rfl, ⟨[], rfl, rfl, World.ownsRow_nil _ _ _ 1, fun k hk => by simp [stackT, runT] at hk⟩, by (repeat (first | (with_reducible assumption) | (with_reducible exact Below.refl _ _) | ((with_reducible refine Below.alloc ?_ ?hsz _); (case hsz => (first | omega | (simp; done) | (simp; omega) | (simp at *; omega)))) | ((with_reducible refine Below.setCell ?_ ?hsz _); (case hsz => (first | omega | (simp; done) | (simp; omega) | (simp at *; omega)))) | (with_reducible refine Below.drew ?_) | (with_reducible refine below_drewN ?_ _) | ((with_reducible refine Below.trans ?_ (Below.mono (by with_reducible assumption) ?hsz)); (case hsz => (first | omega | (simp; done) | (simp; omega) | (simp at *; omega))))))⟩
  case round =>
    obtain ⟨k, n, c1, A1, hk, rfl, rfl, hn, hstk, hb⟩ := hrel
    obtain ⟨hcr, hfr, hzr⟩ := bcell hb
    have hkT : k ≤ T.marks.length := by have := HL.out; omega
    obtain ⟨hga, hgm, hgn⟩ := HA.out k hkT
    have hnk : n ≤ 13 := by omega
    by_cases hlt : k < L
    · have hltT : k < T.marks.length := by have := HL.out; omega
      obtain ⟨g, o, rfl, hg2, d0, d1, d2⟩ := hcell k hltT
      have hgr : g < wr.heap.size := by omega
      rcases HN.out k hltT with ⟨h, p, hm, hh, hp, hs⟩ | ⟨s, a, b, r, hm, hst, hs⟩
      · rw [hm] at d0 d1 d2
        have HS := Lib.hid hs
        have HM := Lib.hid hn
        clear hm hs hn
        go_wp2_with fail
        refine (rPipe_any 0 h p _).mono ?_
        rintro e w2 ⟨r, rfl, hr, hb2⟩
        obtain ⟨A9, c9, rfl, -, -, -, -⟩ := hr.form
        obtain ⟨n9, hn9⟩ : ∃ n9, ([(⟨0, h, p⟩ : Mk)]).length = n9 := ⟨_, rfl⟩
        rw [hn9] at hr ⊢
        clear hn9
        have hstk2 := hstk.keep (w' := w2) (by (repeat (first | (with_reducible assumption) | (with_reducible exact Below.refl _ _) | ((with_reducible refine Below.alloc ?_ ?hsz _); (case hsz => (first | omega | (simp; done) | (simp; omega) | (simp at *; omega)))) | ((with_reducible refine Below.setCell ?_ ?hsz _); (case hsz => (first | omega | (simp; done) | (simp; omega) | (simp at *; omega)))) | (with_reducible refine Below.drew ?_) | (with_reducible refine below_drewN ?_ _) | ((with_reducible refine Below.trans ?_ (Below.mono (by with_reducible assumption) ?hsz)); (case hsz => (first | omega | (simp; done) | (simp; omega) | (simp at *; omega)))))))
        have hz2' := hb2.size
        simp at hz2'
        have hbw2 : Below w.heap.size w w2 := by (repeat (first | (with_reducible assumption) | (with_reducible exact Below.refl _ _) | ((with_reducible refine Below.alloc ?_ ?hsz _); (case hsz => (first | omega | (simp; done) | (simp; omega) | (simp at *; omega)))) | ((with_reducible refine Below.setCell ?_ ?hsz _); (case hsz => (first | omega | (simp; done) | (simp; omega) | (simp at *; omega)))) | (with_reducible refine Below.drew ?_) | (with_reducible refine below_drewN ?_ _) | ((with_reducible refine Below.trans ?_ (Below.mono (by with_reducible assumption) ?hsz)); (case hsz => (first | omega | (simp; done) | (simp; omega) | (simp at *; omega))))))
        obtain ⟨vs, v1, v2, hown2, v4⟩ := hstk2
        have hrow : ∀ q, (Value.slice A1 n c1).ownBlock = some q → w.heap.size ≤ q := fun q hq => (hown2.lt q hq).1
        have HV := Lib.hid (And.intro v1 (And.intro v2 v4))
        have HR := Lib.hid (hr.mono (b' := w.heap.size) (by simp; omega))
        clear hstk hcr hfr hb hb2 v1 v2 v4 hr
        go_wp2_with (first
          | (at_builtin
             go_must (refine wpList_append_lies _ rfl _ _ 78 rfl w.heap.size 24 i0 _ 1 24 Try.underlying78 hi0 hz0 hz1 hz2 rfl (by omega) _ n _ rfl (hown2.alloc _) ⟨w2.heap.size, 0, none⟩ 1 1 [.slice A9 n9 c9] rfl rfl (World.news_of_block (cs := #[.slice A9 n9 c9]) (t := 24) (fr := (0, 0)) (heap_alloc_new _ _)) (by simp [Value.oneCell']) (by omega) (by unfold maxLen; omega) (by omega) (by simp; omega) _ rfl ?_)
             intro g2 k2 w7 hown7 hgr7 hat7 hlt7))
        have hb7 : Below w.heap.size w w7 := by
          refine Below.grown (w := w2.alloc (.cells #[.slice A9 n9 c9] 24)) (by (repeat (first | (with_reducible assumption) | (with_reducible exact Below.refl _ _) | ((with_reducible refine Below.alloc ?_ ?hsz _); (case hsz => (first | omega | (simp; done) | (simp; omega) | (simp at *; omega)))) | ((with_reducible refine Below.setCell ?_ ?hsz _); (case hsz => (first | omega | (simp; done) | (simp; omega) | (simp at *; omega)))) | (with_reducible refine Below.drew ?_) | (with_reducible refine below_drewN ?_ _) | ((with_reducible refine Below.trans ?_ (Below.mono (by with_reducible assumption) ?hsz)); (case hsz => (first | omega | (simp; done) | (simp; omega) | (simp at *; omega))))))) hgr7 (by (first | omega | (simp; done) | (simp; omega) | (simp at *; omega))) hrow
        have hb22 : Below w2.heap.size w2 (w2.alloc (.cells #[.slice A9 n9 c9] 24)) := by (repeat (first | (with_reducible assumption) | (with_reducible exact Below.refl _ _) | ((with_reducible refine Below.alloc ?_ ?hsz _); (case hsz => (first | omega | (simp; done) | (simp; omega) | (simp at *; omega)))) | ((with_reducible refine Below.setCell ?_ ?hsz _); (case hsz => (first | omega | (simp; done) | (simp; omega) | (simp at *; omega)))) | (with_reducible refine Below.drew ?_) | (with_reducible refine below_drewN ?_ _) | ((with_reducible refine Below.trans ?_ (Below.mono (by with_reducible assumption) ?hsz)); (case hsz => (first | omega | (simp; done) | (simp; omega) | (simp at *; omega))))))
        have hSn : StkM w7 w.heap.size (.slice (some ⟨g2, 0, none⟩) (n + 1) k2) (n + 1) ((stackT T k).reverse.map mg ++ [[(⟨0, h, p⟩ : Mk)]]) :=
          StkM.snoc _ HV.out.1 HV.out.2.1 (hown2.alloc _) (fun k hk hk' => (HV.out.2.2 k hk hk').keep hb22) (HR.out.keep hb22) hgr7 hown7
        have HO := Lib.hid hSn
        clear hown7 hgr7 hat7 hlt7 hSn hb22
        go_roundw
        case rel => exact ⟨k + 1, n + 1, k2, some ⟨g2, 0, none⟩, by omega, by go_num, rfl, by rw [HS.out]; simp; exact HM.out, by rw [HS.out]; simpa [mg, Tm.merged, Tm.marks] using HO.out, hb7⟩
        case measure => simp [intOf]; omega
      · rw [hm] at d0 d1 d2
        have hgA := hga a (by rw [hst]; simp)
        have hgB := hga b (by rw [hst]; simp)
        have ha7 := a.pipes_marks (hgm a (by rw [hst]; simp)) (by omega)
        have hb7' := b.pipes_marks (hgm b (by rw [hst]; simp)) (by omega)
        have HSM := Lib.hid (And.intro (a.merged_good hgA) (b.merged_good hgB))
        have hlab : (mg a).length + (mg b).length ≤ 90 := by
          have h1 := Tm.len13 a.merged (by have := (a.merged_good hgA).2; omega)
          have h2 := Tm.len13 b.merged (by have := (b.merged_good hgB).2; omega)
          show a.merged.marks.length + b.merged.marks.length ≤ 90
          omega
        have HLAB := Lib.hid hlab
        clear hlab
        obtain ⟨M, hM⟩ : ∃ M, r.length = M := ⟨_, rfl⟩
        have hnM : n = M + 2 := by rw [← hn, hst]; simp; omega
        subst hnM
        rw [hst] at hstk
        have hstk0 := hstk
        obtain ⟨vs, v1, v2, hown, v4⟩ := hstk
        have hvl : vs.length = M + 2 := by omega
        obtain ⟨gs, rfl, hgs1, hgs2, hcn, hcm, hc9⟩ := own_at hown (by omega)
        unfold maxLen at hcm
        obtain ⟨f0, f1⟩ := hc9 M vs[M] (by simp <;> omega)
        obtain ⟨f2, -⟩ := hc9 (M + 1) vs[M + 1] (by simp <;> omega)
        have hIa := v4 M (by omega) (by omega)
        have hIb := v4 (M + 1) (by omega) (by omega)
        have ea : ((b :: a :: r).reverse.map mg)[M]'(by simp; omega) = (mg a) := by subst hM; simp
        have eb : ((b :: a :: r).reverse.map mg)[M + 1]'(by simp; omega) = (mg b) := by subst hM; simp
        rw [ea] at hIa
        rw [eb] at hIb
        generalize vs[M] = va at *
        generalize vs[M + 1] = vb at *
        obtain ⟨Aa, ca, rfl, -, -, -, -⟩ := hIa.form
        obtain ⟨Ab, cb, rfl, -, -, -, -⟩ := hIb.form
        obtain ⟨la, hla⟩ : ∃ l, (mg a).length = l := ⟨_, rfl⟩
        obtain ⟨lb, hlb⟩ : ∃ l, (mg b).length = l := ⟨_, rfl⟩
        rw [hla] at hIa f0
        rw [hlb] at hIb f2
        have HS := Lib.hid hs
        have HM := Lib.hid hM
        have hk0 : (kindI s == 0) = false := by cases s <;> rfl
        clear hm hst hs hn hc9 hM v1 v2 v4 hvl ea eb hla hlb hown
        obtain ⟨W7, hW7⟩ : ∃ W, W = wr.alloc (.cells #[.int .i64 (kindI s), .int .i64 0, .int .i64 0] 51) := ⟨_, rfl⟩
        have hbr : Below wr.heap.size wr W7 := by rw [hW7]; (repeat (first | (with_reducible assumption) | (with_reducible exact Below.refl _ _) | ((with_reducible refine Below.alloc ?_ ?hsz _); (case hsz => (first | omega | (simp; done) | (simp; omega) | (simp at *; omega)))) | ((with_reducible refine Below.setCell ?_ ?hsz _); (case hsz => (first | omega | (simp; done) | (simp; omega) | (simp at *; omega)))) | (with_reducible refine Below.drew ?_) | (with_reducible refine below_drewN ?_ _) | ((with_reducible refine Below.trans ?_ (Below.mono (by with_reducible assumption) ?hsz)); (case hsz => (first | omega | (simp; done) | (simp; omega) | (simp at *; omega))))))
        have hmb : wr.heap.size < W7.heap.size := by rw [hW7]; simp
        have hm0 : W7.cell? ⟨wr.heap.size, 0, none⟩ = some (.int .i64 (kindI s)) := by rw [hW7]; go_simp
        have HST := Lib.hid (hstk0.keep hbr)
        replace hIa := hIa.keep hbr
        replace hIb := hIb.keep hbr
        have hb7 : Below w.heap.size w W7 := hb.trans (hbr.mono hb.size)
        have hgl : gs < W7.heap.size := by omega
        have ha0 := (hbr.cell (p := ⟨gs, M, none⟩) hgs2).trans f0
        have hfz := (hbr.frozen (p := ⟨gs, M, none⟩) hgs2).trans f1
        have hb0 := (hbr.cell (p := ⟨gs, M + 1, none⟩) hgs2).trans f2
        clear hbr hb f0 f1 f2 hstk0
        go_wp2_with fail
        rw [← hW7]
        clear hW7 hcr hfr
        refine wp_region_flowL 18 none [(0, 29), (1, 30), (2, 31), (3, 32), (4, 33), (5, 34), (6, 35), (7, 36), (8, 37), (9, 38), (10, 39), (11, 40), (12, 41), (13, 42), (14, 43), (15, 44), (16, 45)] (fun j x _ wx => bqV W7 W7.heap.size gs M c1 wr.heap.size s (.slice Aa la ca) (.slice Ab lb cb) (mg (Tm.two s a b)) (.func (Fn.func 57) #[] #[]) j x wx) (fun i wx wy => if i = 17 then True else Below wx.heap.size wx wy) (fun f wx => 1 ≤ f → Below W7.heap.size W7 wx) (by kernel_rfl) (by kernel_rfl) rfl (fun _ => ⟨rfl, rfl, rfl, Nat.le_refl _, fun _ _ => rfl⟩) ?_ ?_ ?_ ?_
        · intro i k hi hk hal x u wa wb hR hV
          have hk' : k < 18 := hk
          have hi' : i < 18 := hi
          by_cases n17 : k = 17
          · subst n17
            exfalso
            rcases i with _ | _ | _ | _ | _ | _ | _ | _ | _ | _ | _ | _ | _ | _ | _ | _ | _ | _ | i
            all_goals (first | omega | (revert hal; decide))
          · by_cases i17 : i = 17
            · subst i17
              rcases k with _ | _ | _ | _ | _ | _ | _ | _ | _ | _ | _ | _ | _ | _ | _ | _ | _ | _ | k
              all_goals first | exact hV | (exfalso; revert hal; decide) | (exfalso; omega)
            · have hbb : Below wa.heap.size wa wb := by simpa [i17] using hR
              rcases k with _ | _ | _ | _ | _ | _ | _ | _ | _ | _ | _ | _ | _ | _ | _ | _ | _ | _ | k
              all_goals first
                | exact hV
                | (exfalso; omega)
                | (obtain ⟨s, h1, h2⟩ := hV; exact ⟨s, h1, h2.keep hbb⟩)
        · exact fun _ _ _ _ _ _ _ h => h
        · simp (maxSteps := 4000000) only [eachOp, fillF, List.setIfInBounds_toArray, List.set_cons_succ, List.set_cons_zero]
          refine ⟨?_, ?_, ?_, ?_, ?_, ?_, ?_, ?_, ?_, ?_, ?_, ?_, ?_, ?_, ?_, ?_, ?_, ?_, trivial⟩ <;> intro u f wx hC hd hf <;> (try simp [allV, useOf, Region.binds] at hd)
          · have hf1 : 1 ≤ f := Nat.le_trans (by decide) hf.1
            have hB := hC (by omega)
            clear hf
            have hBz := hB.size
            go_wp2
            first | exact ⟨_, rfl, rfl, Below.refl _ _, fun _ => hB⟩ | exact ⟨_, rfl, rfl, Below.refl _ _, hB⟩
          · have hf1 : 1 ≤ f := Nat.le_trans (by decide) hf.1
            have hB := hC (by omega)
            clear hf
            have hBz := hB.size
            go_wp2
            first | exact ⟨_, rfl, rfl, Below.refl _ _, fun _ => hB⟩ | exact ⟨_, rfl, rfl, Below.refl _ _, hB⟩
          · rw [show u 1 = _ from (by first | exact hd | exact hd.1 | exact hd.2 | exact hd.2.1 | exact hd.2.2 | exact hd.2.2.1 | exact hd.2.2.2 | exact hd.2.2.2.1 | exact hd.2.2.2.2)]
            have hf1 : 1 ≤ f := Nat.le_trans (by decide) hf.1
            have hB := hC (by omega)
            clear hf
            have hBz := hB.size
            have hw : IntKind.i64.wrap ((M : Int) + 2 - 1 - 1) = (M : Int) := by rw [IntWalk.i64_in _ (by omega)]; omega
            go_wp2
            first | exact ⟨_, rfl, rfl, Below.refl _ _, fun _ => hB⟩ | exact ⟨_, rfl, rfl, Below.refl _ _, hB⟩
          · have hf1 : 1 ≤ f := Nat.le_trans (by decide) hf.1
            have hB := hC (by omega)
            clear hf
            have hBz := hB.size
            go_wp2
            first | exact ⟨_, rfl, rfl, Below.refl _ _, fun _ => hB⟩ | exact ⟨_, rfl, rfl, Below.refl _ _, hB⟩
          · have hf1 : 1 ≤ f := Nat.le_trans (by decide) hf.1
            have hB := hC (by omega)
            clear hf
            have hBz := hB.size
            go_wp2
            first | exact ⟨_, rfl, rfl, Below.refl _ _, fun _ => hB⟩ | exact ⟨_, rfl, rfl, Below.refl _ _, hB⟩
          · rw [show u 4 = _ from (by first | exact hd | exact hd.1 | exact hd.2 | exact hd.2.1 | exact hd.2.2 | exact hd.2.2.1 | exact hd.2.2.2 | exact hd.2.2.2.1 | exact hd.2.2.2.2)]
            have hf1 : 1 ≤ f := Nat.le_trans (by decide) hf.1
            have hB := hC (by omega)
            clear hf
            have hBz := hB.size
            have e0 := (hB.cell (p := ⟨wr.heap.size, 0, none⟩) hmb).trans hm0
            go_wp2
            first | exact ⟨_, rfl, rfl, Below.refl _ _, fun _ => hB⟩ | exact ⟨_, rfl, rfl, Below.refl _ _, hB⟩
          · have hf1 : 1 ≤ f := Nat.le_trans (by decide) hf.1
            have hB := hC (by omega)
            clear hf
            have hBz := hB.size
            go_wp2
            first | exact ⟨_, rfl, rfl, Below.refl _ _, fun _ => hB⟩ | exact ⟨_, rfl, rfl, Below.refl _ _, hB⟩
          · have hf1 : 1 ≤ f := Nat.le_trans (by decide) hf.1
            have hB := hC (by omega)
            clear hf
            have hBz := hB.size
            go_wp2
            first | exact ⟨_, rfl, rfl, Below.refl _ _, fun _ => hB⟩ | exact ⟨_, rfl, rfl, Below.refl _ _, hB⟩
          · rw [show u 7 = _ from (by first | exact hd | exact hd.1 | exact hd.2 | exact hd.2.1 | exact hd.2.2 | exact hd.2.2.1 | exact hd.2.2.2 | exact hd.2.2.2.1 | exact hd.2.2.2.2)]
            have hf1 : 1 ≤ f := Nat.le_trans (by decide) hf.1
            have hB := hC (by omega)
            clear hf
            have hBz := hB.size
            have hw : IntKind.i64.wrap ((M : Int) + 2 - 1 - 1) = (M : Int) := by rw [IntWalk.i64_in _ (by omega)]; omega
            go_wp2
            first | exact ⟨_, rfl, rfl, Below.refl _ _, fun _ => hB⟩ | exact ⟨_, rfl, rfl, Below.refl _ _, hB⟩
          · rw [show u 6 = _ from (by first | exact hd | exact hd.1 | exact hd.2 | exact hd.2.1 | exact hd.2.2 | exact hd.2.2.1 | exact hd.2.2.2 | exact hd.2.2.2.1 | exact hd.2.2.2.2), show u 8 = _ from (by first | exact hd | exact hd.1 | exact hd.2 | exact hd.2.1 | exact hd.2.2 | exact hd.2.2.1 | exact hd.2.2.2 | exact hd.2.2.2.1 | exact hd.2.2.2.2)]
            have hf1 : 1 ≤ f := Nat.le_trans (by decide) hf.1
            have hB := hC (by omega)
            clear hf
            have hBz := hB.size
            go_wp2
            first | exact ⟨_, rfl, rfl, Below.refl _ _, fun _ => hB⟩ | exact ⟨_, rfl, rfl, Below.refl _ _, hB⟩
          · rw [show u 9 = _ from (by first | exact hd | exact hd.1 | exact hd.2 | exact hd.2.1 | exact hd.2.2 | exact hd.2.2.1 | exact hd.2.2.2 | exact hd.2.2.2.1 | exact hd.2.2.2.2)]
            have hf1 : 1 ≤ f := Nat.le_trans (by decide) hf.1
            have hB := hC (by omega)
            clear hf
            have hBz := hB.size
            have e0 := (hB.cell (p := ⟨gs, M, none⟩) hgl).trans ha0
            go_wp2
            first | exact ⟨_, rfl, rfl, Below.refl _ _, fun _ => hB⟩ | exact ⟨_, rfl, rfl, Below.refl _ _, hB⟩
          · have hf1 : 1 ≤ f := Nat.le_trans (by decide) hf.1
            have hB := hC (by omega)
            clear hf
            have hBz := hB.size
            go_wp2
            first | exact ⟨_, rfl, rfl, Below.refl _ _, fun _ => hB⟩ | exact ⟨_, rfl, rfl, Below.refl _ _, hB⟩
          · have hf1 : 1 ≤ f := Nat.le_trans (by decide) hf.1
            have hB := hC (by omega)
            clear hf
            have hBz := hB.size
            go_wp2
            first | exact ⟨_, rfl, rfl, Below.refl _ _, fun _ => hB⟩ | exact ⟨_, rfl, rfl, Below.refl _ _, hB⟩
          · rw [show u 11 = _ from (by first | exact hd | exact hd.1 | exact hd.2 | exact hd.2.1 | exact hd.2.2 | exact hd.2.2.1 | exact hd.2.2.2 | exact hd.2.2.2.1 | exact hd.2.2.2.2), show u 12 = _ from (by first | exact hd | exact hd.1 | exact hd.2 | exact hd.2.1 | exact hd.2.2 | exact hd.2.2.1 | exact hd.2.2.2 | exact hd.2.2.2.1 | exact hd.2.2.2.2)]
            have hf1 : 1 ≤ f := Nat.le_trans (by decide) hf.1
            have hB := hC (by omega)
            clear hf
            have hBz := hB.size
            go_wp2
            first | exact ⟨_, rfl, rfl, Below.refl _ _, fun _ => hB⟩ | exact ⟨_, rfl, rfl, Below.refl _ _, hB⟩
          · rw [show u 13 = _ from (by first | exact hd | exact hd.1 | exact hd.2 | exact hd.2.1 | exact hd.2.2 | exact hd.2.2.1 | exact hd.2.2.2 | exact hd.2.2.2.1 | exact hd.2.2.2.2)]
            have hf1 : 1 ≤ f := Nat.le_trans (by decide) hf.1
            have hB := hC (by omega)
            clear hf
            have hBz := hB.size
            have e0 := (hB.cell (p := ⟨gs, M + 1, none⟩) hgl).trans hb0
            go_wp2
            first | exact ⟨_, rfl, rfl, Below.refl _ _, fun _ => hB⟩ | exact ⟨_, rfl, rfl, Below.refl _ _, hB⟩
          · rw [show u 3 = _ from (by first | exact hd | exact hd.1 | exact hd.2 | exact hd.2.1 | exact hd.2.2 | exact hd.2.2.1 | exact hd.2.2.2 | exact hd.2.2.2.1 | exact hd.2.2.2.2), show u 5 = _ from (by first | exact hd | exact hd.1 | exact hd.2 | exact hd.2.1 | exact hd.2.2 | exact hd.2.2.1 | exact hd.2.2.2 | exact hd.2.2.2.1 | exact hd.2.2.2.2), show u 10 = _ from (by first | exact hd | exact hd.1 | exact hd.2 | exact hd.2.1 | exact hd.2.2 | exact hd.2.2.1 | exact hd.2.2.2 | exact hd.2.2.2.1 | exact hd.2.2.2.2), show u 14 = _ from (by first | exact hd | exact hd.1 | exact hd.2 | exact hd.2.1 | exact hd.2.2 | exact hd.2.2.1 | exact hd.2.2.2 | exact hd.2.2.2.1 | exact hd.2.2.2.2)]
            have hf1 : 1 ≤ f := Nat.le_trans (by decide) hf.1
            have hB := hC (by omega)
            clear hf
            have hBz := hB.size
            go_wp2_with fail
            refine (madeOne_any s a.merged b.merged _ _ _ _ _ (hIa.keep hB) (hIb.keep hB) HSM.out.1.1 HSM.out.2.1 HLAB.out).mono ?_
            rintro e wy ⟨r, rfl, hr, hby⟩
            go_wp2
            first | exact ⟨_, rfl, ⟨_, rfl, hr.mono hBz⟩, hby, fun _ => hB.trans (hby.mono hBz)⟩ | exact ⟨_, rfl, ⟨_, rfl, hr.mono hBz⟩, hby, hB.trans (hby.mono hBz)⟩
          · rw [show u 0 = _ from (by first | exact hd | exact hd.1 | exact hd.2 | exact hd.2.1 | exact hd.2.2 | exact hd.2.2.1 | exact hd.2.2.2 | exact hd.2.2.2.1 | exact hd.2.2.2.2), show u 2 = _ from (by first | exact hd | exact hd.1 | exact hd.2 | exact hd.2.1 | exact hd.2.2 | exact hd.2.2.1 | exact hd.2.2.2 | exact hd.2.2.2.1 | exact hd.2.2.2.2)]
            have hf1 : 1 ≤ f := Nat.le_trans (by decide) hf.1
            have hB := hC (by omega)
            clear hf
            have hBz := hB.size
            go_wp2
            first | exact ⟨_, rfl, rfl, Below.refl _ _, fun _ => hB⟩ | exact ⟨_, rfl, rfl, Below.refl _ _, hB⟩
          · rw [show u 16 = _ from (by first | exact hd | exact hd.1 | exact hd.2 | exact hd.2.1 | exact hd.2.2 | exact hd.2.2.1 | exact hd.2.2.2 | exact hd.2.2.2.1 | exact hd.2.2.2.2)]
            have hf2 := hf.2
            have hB := hC (by omega)
            clear hf
            have hBz := hB.size
            have e0 := (hB.cell (p := ⟨gs, M, none⟩) hgl).trans ha0
            have e1 := (hB.frozen (p := ⟨gs, M, none⟩) hgl).trans hfz
            have hgx : gs < wx.heap.size := by omega
            obtain ⟨s9, h15, hr15⟩ : ∃ s9, u 15 = s9 ∧ Marks wx W7.heap.size s9 (mg (Tm.two s a b)) := (by first | exact hd.1 | exact hd.2)
            obtain ⟨A15, c15, rfl, -, -, -, -⟩ := hr15.form
            rw [h15]
            go_wp2
            exact ⟨undef, rfl, ⟨rfl, _, _, hB, hr15, rfl⟩, (if_pos rfl ▸ trivial : (if (17 : Nat) = 17 then True else _)), fun h => absurd h (by have := Nat.le_trans hf2 (by decide : _ ≤ 0); omega)⟩
        · intro u f wx hC hfin
          simp only [fillEnd, fillF, Act.put, List.setIfInBounds_toArray, List.set_cons_succ, List.set_cons_zero]
          obtain ⟨-, w9, s9, hb9, hr9, hw9⟩ := hfin 17 (by decide) (by decide)
          subst hw9
          clear hfin hC
          have hz9 := hb9.size
          have hST := (HST.out.keep hb9).top (s := s9) (L := (mg (Tm.two s a b))) (M := M) (by have := HM.out; simp [this]) (hr9.mono (by omega))
          have hb10 : Below w.heap.size w (w9.setCell ⟨gs, M, none⟩ s9) := by
            have : Below w.heap.size w w9 := hb7.trans (hb9.mono (by omega))
            exact this.setCell (by omega) _
          have HF := Lib.hid (And.intro hST hb10)
          clear hST hb10 hb9 hr9
          go_wp2
          go_roundw
          case rel =>
            refine ⟨k + 1, M + 1, c1, some ⟨gs, 0, none⟩, by omega, by go_num, rfl, by rw [HS.out]; simp; exact HM.out, ?_, HF.out.2⟩
            rw [HS.out]
            have h := HF.out.1
            have e : ((b :: a :: r).reverse.map mg).take M ++ [(mg (Tm.two s a b))] = ((Tm.two s a b) :: r).reverse.map mg := by
              have := HM.out
              subst this
              simp
            rw [e] at h
            exact h
          case measure => simp [intOf]; omega
    · have hk2 : k = L := by omega
      subst hk2
      have hE : stackT T k = [T] := by rw [← HL.out]; exact HE.out
      have hn1 : n = 1 := by rw [← hn, hE]; rfl
      subst hn1
      rw [hE] at hstk
      obtain ⟨vs, v1, v2, hown, v4⟩ := hstk
      have hvl : vs.length = 1 := by rw [v1]; rfl
      obtain ⟨gs, rfl, hgs1, hgs2, hcn, hcm, hc9⟩ := own_at hown (by omega)
      obtain ⟨f0, -⟩ := hc9 0 vs[0] (by simp <;> omega)
      have hI := v4 0 (by simp) (by omega)
      have ea : ([T].reverse.map mg)[0]'(by simp) = (mg T) := by simp
      rw [ea] at hI
      generalize vs[0] = va at *
      obtain ⟨Aa, ca, rfl, -, -, -, -⟩ := hI.form
      have HI := Lib.hid hI
      clear hown hc9 hn hE v1 v2 v4 hvl ea hI
      go_wp2
      go_ret
      exact ⟨_, rfl, HI.out, by (repeat (first | (with_reducible assumption) | (with_reducible exact Below.refl _ _) | ((with_reducible refine Below.alloc ?_ ?hsz _); (case hsz => (first | omega | (simp; done) | (simp; omega) | (simp at *; omega)))) | ((with_reducible refine Below.setCell ?_ ?hsz _); (case hsz => (first | omega | (simp; done) | (simp; omega) | (simp at *; omega)))) | (with_reducible refine Below.drew ?_) | (with_reducible refine below_drewN ?_ _) | ((with_reducible refine Below.trans ?_ (Below.mono (by with_reducible assumption) ?hsz)); (case hsz => (first | omega | (simp; done) | (simp; omega) | (simp at *; omega))))))⟩



set_option maxHeartbeats 1000000 in
set_option maxRecDepth 20000 in
theorem mergedTerm_any (v : Value) (ts : List Mk) (b : Nat) (w : World) (h : Marks w b v ts) :
    Calls Try.prog 29 #[v] w fun e w' => ∃ r, e = .returned r ∧ Marks w' w.heap.size r (mergedR ts) ∧ Below w.heap.size w w' := by
  have hruled : Calls Try.prog 54 #[v, .func (Fn.func 57) #[] #[]] w fun e w' => ∃ r, e = .returned r ∧ Marks w' w.heap.size r (mergedR ts) ∧ Below w.heap.size w w' := by
    obtain ⟨A, c, rfl, hc1, hc2, -, -⟩ := h.form
    unfold maxLen at hc2
    cases ht : termB ts
    · have HR := Lib.hid (show mergedR ts = [] by simp [mergedR, ht])
      go_enter Try.func54, Try.ntmps54
      go_wp2_with fail
      refine (termOk_any _ ts b _ h).mono ?_
      rintro e w1 ⟨rfl, hb1⟩
      rw [ht]
      go_wp2_with fail
      go_ret
      exact ⟨_, rfl, by rw [HR.out]; exact Marks_nil _ _, hb1⟩
    · obtain ⟨hT, hg, h7, -⟩ := term_of ht
      have HR := Lib.hid (show mergedR ts = mg (tmOf ts) by simp [mergedR, ht, mg])
      have HT := Lib.hid (And.intro hT (And.intro hg h7))
      clear hT hg h7
      go_enter Try.func54, Try.ntmps54
      go_wp2_with fail
      refine (termOk_any _ ts b _ h).mono ?_
      rintro e w1 ⟨rfl, hb1⟩
      rw [ht]
      have hA2 : ArgMarks w1 (.slice A ts.length c) (tmOf ts).marks := by rw [← HT.out.1]; exact h.arg.keep hb1
      have hz1 := hb1.size
      go_wp2_with fail
      refine (builtMerged_any (tmOf ts) HT.out.2.1 HT.out.2.2 _ _ hA2).mono ?_
      rintro e w2 ⟨r, rfl, hr, hb2⟩
      have hbF : Below w.heap.size w w2 := hb1.trans (hb2.mono hz1)
      have hfin := hr.mono hz1
      clear hb1 hb2 hr hA2
      go_wp2_with fail
      go_ret
      exact ⟨_, rfl, by rw [HR.out]; exact hfin, hbF⟩
  have HRU := Lib.hid hruled
  clear hruled
  go_enter Try.func29, Try.ntmps29
  go_wp2_with fail
  refine HRU.out.mono ?_
  rintro e w2 ⟨r, rfl, hr, hb2⟩
  go_wp2_with fail
  go_ret
  exact ⟨_, rfl, hr, hb2⟩

end Go.Proofs.Ytffeeiafgheoaaa
